/- The reference of lines: Offsets. Made by gen/linm.py. -/
import Derived.Test.YtbolifjkhoiphaaLinHI
import Derived.Test.YtbolifjkhoiphaaLinEG
import Derived.Test.YtbolifjkhoiphaaShareO
import Derived.Test.YtbolifjkhoiphaaLinJK
import Derived.WalkKit
import Derived.WalkSpells
import Derived.WalkLawsBesides
import Derived.Handy
import Derived.Lib.Hide
import Derived.Deep.QuietTactic
import Derived.BigQuiet
import Derived.LoopTactic
import Derived.Outline
import Derived.Deep.DeepCutAuto
import Derived.Deep.CutBlock
namespace Go.Proofs.Ytbolifjkhoiphaa
open Go.RowKit Go.Proofs.Reg Go.Proofs.Big Lin
set_option linter.unusedVariables false
set_option linter.unusedSimpArgs false
set_option maxRecDepth 100000
theorem KM.drew {α : Type} {K : Rk α} {e : TypeId} {b0 : Nat} {w wr : World} {pe : Option Addr} {n ce : Nat} {rs : List α} (h : KM K e b0 w wr pe n ce rs) : KM K e b0 w wr.drew pe n ce rs := h.later ((Below.refl _ _).drew)
theorem ri_ks {w : World} {a : Option Addr} {n c : Nat} {xs : List Int} (h : Ri w a n c xs) (hp : ∀ p : Addr, a = some p → p.spot = none) (hc : n ≤ c) (hm : c ≤ 9223372036854775807) : KS IntK w (.slice a n c) xs := by
  refine ⟨a, n, c, rfl, h.hlen.symm, hc, hm, fun q => ?_⟩
  obtain ⟨⟨g, o, pp⟩, rfl, hk⟩ := h.addr q
  obtain rfl : pp = none := hp _ rfl
  refine ⟨g, o, rfl, fun k r hr i x hx => ?_⟩
  have lk := (List.getElem?_eq_some_iff.1 hr).1
  have := hk k (by rw [← h.hlen]; exact lk)
  rw [kadd_none', List.getD_eq_getElem?_getD, hr] at this
  match i, hx with
  | 0, hx =>
    obtain rfl := Option.some.inj hx
    simpa [IntK] using this
  | i + 1, hx => simp [IntK] at hx
theorem rem2 (d : Int) : (d.tmod 2 + 2).tmod 2 = d % 2 := by
  have h1 := Int.emod_nonneg d (b := 2) (by decide)
  have h2 := Int.emod_lt_of_pos d (b := 2) (by decide)
  have t : d.tmod 2 = d % 2 ∨ (d % 2 = 1 ∧ d.tmod 2 = -1) := by
    by_cases h : 0 ≤ d
    · exact .inl (Int.tmod_eq_emod_of_nonneg h)
    · have e := Int.neg_tmod d 2
      have e2 := Int.tmod_eq_emod_of_nonneg (a := -d) (b := 2) (by omega)
      omega
  rcases t with t | ⟨t0, t⟩
  · rw [t, Int.tmod_eq_emod_of_nonneg (by omega)]; omega
  · rw [t, t0]; rfl
theorem quo2 (d : Int) : (d - d % 2).tdiv 2 = d / 2 := by
  have e : d - d % 2 = d / 2 * 2 := by omega
  rw [e, Int.mul_tdiv_cancel _ (by decide)]
theorem r4add4 (x y z u : Int) (o : Option Int) (v er : Int) (hx : Ln x) (hy : In64 y) (hz : In64 z) (hu : In64 u) (ho : adds x [y, z, u] = o) (ht : Ts o v er) (g : Nat) (w : World) (hg : w.heap[g]? = some (.cells #[.int .i64 x, .int .i64 y, .int .i64 z, .int .i64 u] 2 (0, 0))) :
    Calls Try.prog 47 #[.slice (some ⟨g, 0, none⟩) 4 4] w fun e w' => e = .returned (.tuple #[.int .i64 v, .int .i64 er]) ∧ Below w.heap.size w w' := by
  obtain ⟨x0, x1⟩ := hx
  refine r4add_any _ 4 4 [x, y, z, u] o v er w ⟨rfl, by decide, fun _ => ⟨_, rfl, fun k hk => ?_⟩⟩ (Lib.hid (fun v hv => ?_)) (Lib.hid (by rw [addAll_adds, adds_yes (by rw [Int.zero_add]; exact ⟨x0, x1⟩), Int.zero_add]; exact ho)) (Lib.hid ht)
  · rw [kadd_none', Nat.zero_add]
    have : k = 0 ∨ k = 1 ∨ k = 2 ∨ k = 3 := by omega
    rcases this with rfl | rfl | rfl | rfl <;> simp [World.cell?, hg]
  · simp at hv
    rcases hv with rfl | rfl | rfl | rfl
    · omega
    · exact hy
    · exact hz
    · exact hu
theorem r4add2 (x y : Int) (v er : Int) (hx : Ln x) (hy : Ln y) (ht : Tl (x + y) v er) (g : Nat) (w : World) (hg : w.heap[g]? = some (.cells #[.int .i64 x, .int .i64 y] 2 (0, 0))) :
    Calls Try.prog 47 #[.slice (some ⟨g, 0, none⟩) 2 2] w fun e w' => e = .returned (.tuple #[.int .i64 v, .int .i64 er]) ∧ Below w.heap.size w w' := by
  obtain ⟨x0, x1⟩ := hx
  obtain ⟨y0, y1⟩ := hy
  have h := ht
  refine r4add_any _ 2 2 [x, y] (if lenB (x + y) = true then some (x + y) else none) v er w ⟨rfl, by decide, fun _ => ⟨_, rfl, fun k hk => ?_⟩⟩ (Lib.hid (fun v hv => ?_)) (Lib.hid ?_) (Lib.hid ?_)
  · rw [kadd_none', Nat.zero_add]
    have : k = 0 ∨ k = 1 := by omega
    rcases this with rfl | rfl <;> simp [World.cell?, hg]
  · simp at hv
    rcases hv with rfl | rfl <;> omega
  · rw [addAll_adds, adds_yes (by rw [Int.zero_add]; exact ⟨x0, x1⟩), Int.zero_add]
    rcases h with ⟨h, _, _⟩ | ⟨h, _, _⟩
    · rw [if_pos h, adds_yes (lenB_true h)]; rfl
    · rw [h]
      have : ¬ (-17592186044416 ≤ x + y ∧ x + y ≤ 17592186044416) := fun q => by
        simp [lenB] at h; omega
      rw [adds, if_neg (by omega)]; rfl
  · rcases h with ⟨h, rfl, rfl⟩ | ⟨h, rfl, rfl⟩
    · rw [if_pos h]; exact ⟨rfl, rfl⟩
    · rw [h]; exact ⟨rfl, rfl⟩
/-- what the drawn region keeps -/
structure R28 (w1 : World) (x0 x1 x2 x3 : Int) (L : Nat → Bool) (vz : Nat → Value) (wy : World) : Prop where
  bel : Below w1.heap.size w1 wy
  bs : L 18 = true → ∃ g, vz 18 = .slice (some ⟨g, 0, none⟩) 4 4 ∧ wy.heap[g]? = some (.cells #[.int .i64 x0, .int .i64 x1, .int .i64 x2, .int .i64 x3] 2 (0, 0))
section
variable {w1 wy w' : World} {x0 x1 x2 x3 : Int} {L : Nat → Bool} {vz : Nat → Value}
theorem R28.pure (h : R28 w1 x0 x1 x2 x3 L vz wy) (j : Nat) (v : Value) (n18 : 18 ≠ j) (hb : Below wy.heap.size wy w') : R28 w1 x0 x1 x2 x3 (addL L j) (upd vz j v) w' := by
  have a18 : addL L j 18 = L 18 := by simp [addL, n18]
  have u18 : upd vz j v 18 = vz 18 := by simp [upd, n18]
  refine ⟨bel_tr0 h.bel hb, fun q => ?_⟩
  obtain ⟨g, e, hg⟩ := h.bs (a18 ▸ q)
  exact ⟨g, u18.trans e, (hb.block g (Array.getElem?_eq_some_iff.1 hg).1).trans hg⟩
theorem R28.build (h : R28 w1 x0 x1 x2 x3 L vz wy) : R28 w1 x0 x1 x2 x3 (addL L 18) (upd vz 18 (.slice (some ⟨wy.heap.size, 0, none⟩) 4 4)) (wy.alloc (.cells #[.int .i64 x0, .int .i64 x1, .int .i64 x2, .int .i64 x3] 2)) :=
  ⟨bel_tr0 h.bel (bel_newR wy _), fun _ => ⟨wy.heap.size, by simp [upd], heap_alloc_new _ _⟩⟩
end
/-- what the reference's Offsets answers -/
def Of13 (er : Int) (o : Option (List Int)) (u : Value) (er' : Int) (w' : World) : Prop := if er = 0 then (match o with
  | some os => er' = 0 ∧ KS IntK w' u os
  | none => er' = 2 ∧ u = .slice none 0 0) else er' = er ∧ u = .slice none 0 0
theorem int_flat (xs : List Int) : IntK.flat xs = xs.map (Value.int .i64) := by
  unfold Rk.flat
  induction xs with
  | nil => rfl
  | cons x xs ih => rw [List.flatMap_cons, ih]; rfl
set_option maxHeartbeats 16000000 in
theorem r13offs_any (a : Option Addr) (n c : Nat) (l : List I4) (f m : Nat) (W H avail text d er : Int) (j : Bool) (hm : f + m + 1 ≤ n) (hl : n ≤ 30) (hW : Ln W) (hA : Ln avail) (hT : Tl (avail - W) d er) (hj : j = (text == 4 && decide (0 < d) && decide (f + m + 1 < n))) (hi : ∀ r ∈ l, InI r) (w : World) (h : KS IK w (.slice a n c) l) :
    Calls Try.prog 24 #[.slice a n c, .agg #[.int .i64 f, .int .i64 (f + m + 1 : Nat), .int .i64 W, .int .i64 H], .int .i64 avail, .int .i64 text] w fun e w' => (∃ u er', e = .returned (.tuple #[u, .int .i64 er']) ∧ Of13 er (offs l f (gapsF d m j) m 0 (indF d text)) u er' w') ∧ Below w.heap.size w w' := by
  obtain ⟨hn, hc, hmx⟩ := h.len
  have HK := Lib.hid h
  have HN := Lib.hid hn
  have HI := Lib.hid hi
  obtain ⟨g, o, _, _, _, _, rfl, _, _, _, _, _, _⟩ := IK.at h (show f < n by omega)
  obtain ⟨i0, hi0, hz0, hz1, hz2⟩ := slt_i64.info
  have HT := Lib.hid hT
  have LW := Lib.hid hW
  have LAV := Lib.hid hA
  obtain ⟨T, hTT⟩ : ∃ T : Int, ((f + m + 1 : Nat) : Int) = T := ⟨_, rfl⟩
  have t0 : ¬ (f : Int) < 0 := by omega
  have t1 : ¬ (n : Int) < T := by omega
  have t2 : ¬ T ≤ (f : Int) := by omega
  have eTf : T - (f : Int) = (m : Int) + 1 := by omega
  obtain ⟨a1, a2⟩ := hA
  obtain ⟨b1, b2⟩ := hW
  have a1' : ¬ avail < -17592186044416 := by omega
  have a2' : ¬ 17592186044416 < avail := by omega
  have b1' : ¬ W < -17592186044416 := by omega
  have b2' : ¬ 17592186044416 < W := by omega
  have hmk := make_ints (m + 1) (by omega)
  have hmm : ((m + 1 : Nat) : Int) = (m : Int) + 1 := by omega
  rw [hmm] at hmk
  have HTT := Lib.hid hTT
  rw [hTT]
  have HJ := Lib.hid hj
  have ml : m ≤ 29 := by omega
  obtain ⟨R, hR⟩ : ∃ R, offs l f (gapsF d m j) m 0 (indF d text) = R := ⟨_, rfl⟩
  have HR := Lib.hid hR
  rw [hR]
  clear h hi hn hTT hT hj hmm hR
  go_enter Try.func24, Try.ntmps24
  go_wp2_with fail
  refine (r4add2 avail (-W) d er LAV.out (by have := LW.out; exact ⟨by have := this.2; omega, by have := this.1; omega⟩) (by rw [← Int.sub_eq_add_neg]; exact HT.out) _ _ (by first | exact heap_alloc_new _ _ | simpa [World.size_alloc] using heap_alloc_new (w.alloc (.cells #[.int .i64 f, .int .i64 T, .int .i64 W, .int .i64 H] 40)) (.cells #[.int .i64 avail, .int .i64 (-W)] 2))).mono ?_
  rintro e w1 ⟨rfl, hb⟩
  have K1 : Hid (Below w.heap.size w w1) := Lib.hid (bel_tr0 (bel_tr0 (bel_newR _ _) (bel_newR _ _)) hb)
  have T1 : Hid (Tab w1 [(w.heap.size, [.int .i64 f, .int .i64 T, .int .i64 W, .int .i64 H])]) := Lib.hid ((((Tab.nil w).new' _ _ rfl).later (bel_newR _ _)).later hb)
  clear hb
  have c0 := T1.out.cell 0 0 rfl rfl
  have c1 := T1.out.cell 0 1 rfl rfl
  have c2 := T1.out.cell 0 2 rfl rfl
  rcases HT.out with ⟨hd, rfl, rfl⟩ | ⟨_, rfl, rfl⟩
  case inr =>
    go_wp2_with fail
    go_returns
    exact ⟨⟨_, _, rfl, by unfold Of13; rw [if_neg (by decide)]; exact ⟨rfl, rfl⟩⟩, K1.out⟩
  case inl =>
    have LD : Hid (Ln (avail - W)) := Lib.hid (lenB_true hd)
    obtain ⟨d, hdd⟩ : ∃ d, avail - W = d := ⟨_, rfl⟩
    rw [hdd] at LD HJ HR HT ⊢
    clear hdd hd
    go_upto_region 10 with fail
    obtain ⟨bz, hbz⟩ : ∃ bz, w1.heap.size = bz := ⟨_, rfl⟩
    obtain ⟨w2, hw2⟩ : ∃ w2, w1.alloc (.cells (madeCells #[.int .i64 0] (m + 1)) 2) = w2 := ⟨_, rfl⟩
    have OZ : Hid (OwnI w2 bz (List.replicate (m + 1) 0)) := Lib.hid (by rw [← hw2, ← hbz]; exact OwnI.new w1 (m + 1) 2)
    have K2 : Hid (Below w.heap.size w w2) := Lib.hid (by rw [← hw2]; exact bel_tr0 K1.out (bel_newR _ _))
    have T2 : Hid (Tab w2 [(w.heap.size, [.int .i64 f, .int .i64 T, .int .i64 W, .int .i64 H])]) := Lib.hid (by rw [← hw2]; exact T1.out.later (bel_newR _ _))
    rw [hw2, hbz]
    clear hw2 hbz T1 c0 c1 c2 K1
    have c0 := T2.out.cell 0 0 rfl rfl
    have c1 := T2.out.cell 0 1 rfl rfl
    obtain ⟨d0, d1⟩ := id LD.out
    obtain ⟨y12, hy12⟩ : ∃ y, (if text = 2 then d else 0) = y := ⟨_, rfl⟩
    have Y12 := Lib.hid hy12
    clear hy12
    go_upto_if 70 with fail
    go_cut [12] (fun s12 wx => w2 = wx ∧ s12 = .int .i64 y12)
    case first =>
      by_cases x2 : text = 2
      · obtain rfl : d = y12 := by rw [← Y12.out, if_pos x2]
        subst x2
        go_wp2_with fail
        go_meet
        exact ⟨rfl, rfl⟩
      · have b2 : (text == 2) = false := by simpa using x2
        obtain rfl : 0 = y12 := by rw [← Y12.out, if_neg x2]
        clear x2
        go_wp2_with fail
        go_meet
        exact ⟨rfl, rfl⟩
    case rest =>
    obtain ⟨e1, rfl⟩ := hcut
    subst e1
    obtain ⟨z12, hz12⟩ : ∃ z, indF d text = z := ⟨_, rfl⟩
    have Z12 := Lib.hid hz12
    rw [hz12] at HR
    clear hz12
    go_upto_if 73 with fail
    go_cut [12] (fun s12 wx => w2 = wx ∧ s12 = .int .i64 z12)
    case first =>
      by_cases x3 : text = 3
      · subst x3
        have r0 := rem2 d
        have r1 := quo2 d
        have r2 : -2 < d.tmod 2 := Int.lt_tmod_of_pos d (by decide)
        have r3 : d.tmod 2 < 2 := Int.tmod_lt_of_pos d (by decide)
        have ZZ : d / 2 = z12 := by rw [← Z12.out]; rfl
        go_wp2_with fail
        go_meet
        exact ⟨rfl, by rw [← ZZ]⟩
      · have b3 : (text == 3) = false := by simpa using x3
        obtain rfl : y12 = z12 := by rw [← Z12.out, ← Y12.out]; unfold indF; by_cases x2 : text = 2 <;> simp [x2, x3]
        clear x3
        go_wp2_with fail
        go_meet
        exact ⟨rfl, rfl⟩
    case rest =>
    obtain ⟨e1, rfl⟩ := hcut
    subst e1
    obtain ⟨jr, hjr⟩ : ∃ jr, (j && decide (0 < m)) = jr := ⟨_, rfl⟩
    have JR := Lib.hid hjr
    clear hjr
    go_upto_region 14 with fail
    go_cut [101] (fun s101 wx => w2 = wx ∧ s101 = .bool jr)
    case first =>
      by_cases p1 : text = 4
      · subst p1
        by_cases p2 : 0 < d
        · by_cases p3 : T < (n : Int)
          · by_cases p4 : 0 < m
            · have q4 : (1 : Int) < (m : Int) + 1 := by omega
              obtain rfl : true = jr := by rw [← JR.out, HJ.out]; simp [p2, p4]; have := HTT.out; omega
              go_wp2_with fail
              go_meet
              exact ⟨rfl, rfl⟩
            · have q4 : ¬ (1 : Int) < (m : Int) + 1 := by omega
              obtain rfl : false = jr := by rw [← JR.out]; simp [p4]
              go_wp2_with fail
              go_meet
              exact ⟨rfl, rfl⟩
          · obtain rfl : false = jr := by rw [← JR.out, HJ.out]; simp [p2]; have := HTT.out; omega
            go_wp2_with fail
            go_meet
            exact ⟨rfl, rfl⟩
        · obtain rfl : false = jr := by rw [← JR.out, HJ.out]; simp [p2]
          go_wp2_with fail
          go_meet
          exact ⟨rfl, rfl⟩
      · have p1' : (text == 4) = false := by simpa using p1
        obtain rfl : false = jr := by rw [← JR.out, HJ.out]; simp [p1]
        clear p1
        go_wp2_with fail
        go_meet
        exact ⟨rfl, rfl⟩
    case rest =>
    obtain ⟨e1, rfl⟩ := hcut
    subst e1
    go_upto_if 101 with fail
    go_cut [13] (fun s13 wx => ∃ (ga : Nat) (gc : Nat) (wq : World), wq = wx ∧ s13 = .slice (some ⟨ga, 0, none⟩) (m + 1) gc ∧ Hid (Ri wx (some ⟨ga, 0, none⟩) (m + 1) gc (gapsF d m j)) ∧ Hid (Below w2.heap.size w2 wx))
    case first =>
      cases jr with
      | false =>
        have RZ : Hid (Ri w2 (some ⟨bz, 0, none⟩) (m + 1) (m + 1) (gapsF d m j)) := Lib.hid (by
          have RZ : Ri w2 (some ⟨bz, 0, none⟩) (m + 1) (m + 1) (List.replicate (m + 1) 0) := ⟨List.length_replicate .., by omega, fun _ => ⟨_, rfl, fun k hk => by rw [kadd_none', Nat.zero_add]; exact OZ.out.cell k (by rw [List.length_replicate]; exact hk)⟩⟩
          cases hj : j
          · exact RZ
          · have := JR.out
            rw [hj] at this
            simp at this
            subst this
            exact RZ)
        go_wp2_with fail
        go_meet
        exact ⟨bz, m + 1, _, rfl, rfl, RZ, Lib.hid (Below.refl _ _)⟩
      | true =>
        obtain ⟨JJ, q3⟩ : Hid (j = true) ∧ 0 < m := by
          have := JR.out
          simp at this
          exact ⟨Lib.hid this.1, this.2⟩
        go_wp2_with fail
        go_loopw [14, 15] (fun s14 s15 wr => ∃ (i p : Nat) (pe : Option Addr) (ce : Nat), s14 = .slice pe i ce ∧ s15 = .int .i64 p ∧ i ≤ m ∧ Hid (p = f + i) ∧ Hid (KM IntK 2 w2.heap.size w2 wr pe i ce (List.replicate i 1))) (fun _ s15 _ => f + m + 1 - (intOf s15).toNat)
        case atStart => exact ⟨0, f, none, 0, rfl, rfl, by omega, Lib.hid rfl, Lib.hid (KM.start IntK _ (Nat.le_refl _) (Below.refl _ _))⟩
        case round =>
          obtain ⟨i, p, pe, ce, rfl, rfl, im, HP, HM⟩ := hrel
          have pn : p ≤ 1000 := by have := HP.out; omega
          have c1 := kcell_on HM.out.bel c1
          by_cases lt : i < m
          · have lt' : (p : Int) + 1 < T := by have := HP.out; have := HTT.out; omega
            go_wp2_with (at_builtin; go_loud (refine wpList_append_own _ rfl _ _ 46 rfl w2.heap.size 2 i0 (.int .i64 0) 1 8 Try.underlying46 hi0 hz0 hz1 hz2 rfl (by decide) _ _ _ rfl (HM.out.own.alloc _) ⟨_, 0, none⟩ 1 1 [.int .i64 1] rfl rfl ?c1 ?c2 ?c3 ?c4 ?c5 ?_))
            case c1 => exact fun j u hk => new_news j u hk
            case c2 => simp [Value.oneCell']
            case c3 => unfold maxLen; omega
            case c4 => omega
            case c5 => have := HM.out.lt; first | omega | (rw [World.size_alloc]; omega)
            intro v1 w3 hown1 hgrow _
            obtain ⟨a1, c1', rfl, HM2⟩ := HM.out.app (r := 1) hown1 hgrow
            have M2 : Hid (KM IntK 2 w2.heap.size w2 w3 a1 (i + 1) c1' (List.replicate (i + 1) 1)) := Lib.hid (by rw [List.replicate_succ']; exact HM2)
            clear hown1 hgrow HM2 HM
            go_wp2_with fail
            go_roundw
            case rel => exact ⟨i + 1, p + 1, a1, c1', rfl, by simp, by omega, Lib.hid (by have := HP.out; omega), M2⟩
            case measure => have := HP.out; simp [intOf]; omega
          · obtain rfl : i = m := by omega
            have lt' : ¬ (p : Int) + 1 < T := by have := HP.out; have := HTT.out; omega
            have RI : Hid (Ri wr pe i ce (List.replicate i 1)) := Lib.hid (ri_of_ks (HM.out.ks (by decide)))
            have SM : Hid ((List.replicate i (1 : Int)).sum = i) := Lib.hid (by simp)
            go_wp2_with fail
            refine (r5split_own pe i ce (List.replicate i 1) d _ RI.out (by omega) (fun x hx => by rw [List.eq_of_mem_replicate hx]; decide) (by omega) (by omega)).mono ?_
            rintro e w3 ⟨⟨hb, h⟩, ho⟩
            have NB : negB (List.replicate i (1 : Int)) = false := by
              unfold negB
              rw [List.any_eq_false]
              intro x hx
              rw [List.eq_of_mem_replicate hx]; decide
            rcases h with ⟨h, _⟩ | ⟨_, h, _⟩ | ⟨_, _, _, a3, c3, rfl, _⟩
            · rw [NB] at h; cases h
            · exact absurd ⟨⟨d0, d1⟩, by unfold okS; rw [SM.out]; omega⟩ h
            · have M3 : Hid (KM IntK 2 wr.heap.size wr w3 a3 i c3 (parts5 d (List.replicate i 1))) := Lib.hid ⟨by rw [int_flat]; exact ho a3 c3 rfl, hb.size, by simp [parts5], hb⟩
              have B3 : Hid (Below w2.heap.size w2 wr) := Lib.hid HM.out.bel
              clear hb ho NB RI HM
              go_wp2_with (at_builtin; go_loud (refine wpList_append_own _ rfl _ _ 46 rfl wr.heap.size 2 i0 (.int .i64 0) 1 8 Try.underlying46 hi0 hz0 hz1 hz2 rfl (by decide) _ _ _ rfl (M3.out.own.alloc _) ⟨_, 0, none⟩ 1 1 [.int .i64 0] rfl rfl ?c1 ?c2 ?c3 ?c4 ?c5 ?_))
              case c1 => exact fun j u hk => new_news j u hk
              case c2 => simp [Value.oneCell']
              case c3 => unfold maxLen; omega
              case c4 => omega
              case c5 => have := M3.out.lt; first | omega | (rw [World.size_alloc]; omega)
              intro v1 w4 hown1 hgrow _
              obtain ⟨a1, c1', rfl, HM2⟩ := M3.out.app (r := 0) hown1 hgrow
              clear hown1 hgrow
              obtain ⟨ga, rfl⟩ : ∃ ga, a1 = some ⟨ga, 0, none⟩ := by
                rcases Joins.ownsRow_forms HM2.own with ⟨_, h⟩ | ⟨g, cap, h⟩
                · omega
                · simp only [Value.slice.injEq] at h; exact ⟨_, h.1⟩
              have R4 : Hid (Ri w4 (some ⟨ga, 0, none⟩) (i + 1) c1' (gapsF d i true)) := Lib.hid (by unfold gapsF; exact ri_of_ks (HM2.ks (by decide)))
              have B4 : Hid (Below w2.heap.size w2 w4) := Lib.hid (bel_tr0 B3.out HM2.bel)
              clear HM2 M3
              go_wp2_with fail
              go_meet
              exact ⟨ga, c1', _, rfl, rfl, by rw [JJ.out]; exact R4, B4⟩
    case rest =>
      obtain ⟨ga, gc, wq, e1, rfl, GP, B2⟩ := hcut
      obtain ⟨wx, hwx⟩ : ∃ wx, wq = wx := ⟨_, rfl⟩
      subst hwx
      subst e1
      have K3 : Hid (Below w.heap.size w wq) := Lib.hid (bel_tr0 K2.out B2.out)
      have T3 : Hid (Tab wq [(w.heap.size, [.int .i64 f, .int .i64 T, .int .i64 W, .int .i64 H])]) := Lib.hid (T2.out.later B2.out)
      obtain ⟨gs, hgs⟩ : ∃ gs, gapsF d m j = gs := ⟨_, rfl⟩
      have GL : Hid (gs.length = m + 1) := Lib.hid (by rw [← hgs]; exact gapsF_len d m j)
      have GR : Hid (∀ x ∈ gs, In64 x) := Lib.hid (by rw [← hgs]; exact gapsF_rng LD.out)
      rw [hgs] at HR GP
      have LZ : Hid (Ln z12) := Lib.hid (by rw [← Z12.out]; exact indF_rng LD.out)
      clear hgs c0 c1 K2 T2 B2 OZ Y12 JR HJ
      obtain ⟨bx, hbx⟩ : ∃ bx, w.heap.size = bx := ⟨_, rfl⟩
      have HBX := Lib.hid hbx
      rw [hbx] at T3 ⊢
      clear hbx
      have c0 := T3.out.cell 0 0 rfl rfl
      go_wp2_with fail
      go_loopw [12, 16, 17] (fun s12 s16 s17 wr => ∃ (i p : Nat) (at_ : Int) (pe : Option Addr) (ce : Nat) (done : List Int), s12 = .int .i64 at_ ∧ s16 = .slice pe i ce ∧ s17 = .int .i64 p ∧ i ≤ m + 1 ∧ Hid (p = f + i) ∧ Hid (i ≤ m → Ln at_) ∧ Hid (KM IntK 2 wq.heap.size wq wr pe i ce done) ∧ Hid ((i ≤ m ∧ (offs l f gs (m - i) i at_).map (fun r => done ++ r) = R) ∨ (i = m + 1 ∧ R = some done))) (fun _ _ s17 _ => f + m + 1 - (intOf s17).toNat)
      case atStart => exact ⟨0, f, z12, none, 0, [], rfl, rfl, rfl, by omega, Lib.hid rfl, Lib.hid (fun _ => LZ.out), Lib.hid (KM.start IntK _ (Nat.le_refl _) (Below.refl _ _)), Lib.hid (.inl ⟨Nat.zero_le _, by rw [Nat.sub_zero]; simpa using HR.out⟩)⟩
      case round =>
        obtain ⟨i, p, at_, pe, ce, done, rfl, rfl, rfl, im, HP, LAT, HM, ER⟩ := hrel
        have pn : p ≤ 1000 := by have := HP.out; omega
        have c1 := (T3.out.later HM.out.bel).cell 0 1 rfl rfl
        by_cases lt : i ≤ m
        · have lt' : (p : Int) < T := by have := HP.out; have := HTT.out; omega
          have LA : Hid (Ln at_) := Lib.hid (LAT.out lt)
          have ER1 : Hid ((offs l f gs (m - i) i at_).map (fun r => done ++ r) = R) := Lib.hid (by
            rcases ER.out with h | h
            · exact h.2
            · omega)
          go_wp2_with (at_builtin; go_loud (refine wpList_append_own _ rfl _ _ 46 rfl wq.heap.size 2 i0 (.int .i64 0) 1 8 Try.underlying46 hi0 hz0 hz1 hz2 rfl (by decide) _ _ _ rfl (HM.out.own.alloc _) ⟨_, 0, none⟩ 1 1 [.int .i64 at_] rfl rfl ?c1 ?c2 ?c3 ?c4 ?c5 ?_))
          case c1 => exact fun j u hk => new_news j u hk
          case c2 => simp [Value.oneCell']
          case c3 => unfold maxLen; omega
          case c4 => omega
          case c5 => have := HM.out.lt; first | omega | (rw [World.size_alloc]; omega)
          intro v1 wr2 hown1 hgrow _
          obtain ⟨a1, c1', rfl, HM2⟩ := HM.out.app (r := at_) hown1 hgrow
          have M2 := Lib.hid HM2
          clear hown1 hgrow HM2 HM ER c1
          have T4 : Hid (Tab wr2 [(bx, [.int .i64 f, .int .i64 T, .int .i64 W, .int .i64 H])]) := Lib.hid (T3.out.later M2.out.bel)
          have c1 := T4.out.cell 0 1 rfl rfl
          by_cases lm : i < m
          · have lt2 : (p : Int) + 1 < T := by have := HP.out; have := HTT.out; omega
            have ltn : (p : Int) < (n : Int) := by have := HP.out; omega
            obtain ⟨g', o', x1, x2, x3, bb, e1, hit, _, y0, y1, y2, y3⟩ := IK.at HK.out (show p < n by have := HP.out; omega)
            simp only [Option.some.injEq, Addr.mk.injEq] at e1
            obtain ⟨rfl, rfl, _⟩ := e1
            obtain ⟨gi, hgi⟩ : ∃ gi, gs.getD i 0 = gi := ⟨_, rfl⟩
            have IR : Hid (In64 x1 ∧ In64 x2 ∧ In64 gi) := Lib.hid (by
              have := inI_itm HI.out (show p < l.length by have := HN.out; omega)
              rw [hit] at this
              refine ⟨this.1, this.2.1, ?_⟩
              rw [← hgi, List.getD_eq_getElem?_getD, List.getElem?_eq_getElem (by rw [GL.out]; omega)]
              exact GR.out _ (List.getElem_mem _))
            have CL : Hid (∀ wy, Below wr2.heap.size wr2 wy → wy.cell? ⟨g, o + p * 4, none⟩ = some (.int .i64 x1) ∧ wy.cell? ⟨g, o + p * 4 + 1, none⟩ = some (.int .i64 x2) ∧ wy.cell? ⟨ga, i, none⟩ = some (.int .i64 gi) ∧ wy.cell? ⟨bx, 0, none⟩ = some (.int .i64 (f : Int))) := Lib.hid (fun wy hb => by
              have q1 := kcell_on (bel_tr0 (bel_tr0 K3.out M2.out.bel) hb) y0
              have q2 := kcell_on (bel_tr0 (bel_tr0 K3.out M2.out.bel) hb) y1
              refine ⟨q1, q2, ?_, (T4.out.later hb).cell 0 0 rfl rfl⟩
              obtain ⟨q, e, hk⟩ := GP.out.addr (by omega)
              obtain rfl := Option.some.inj e
              have := hk i (by omega)
              rw [kadd_none', Nat.zero_add, hgi] at this
              exact kcell_on (bel_tr0 M2.out.bel hb) this)
            have ix : ∀ wy : World, (Instr.indexAt 25 (.slice (some ⟨g, o, none⟩) n c) (.int .i64 p)).run Try.prog wy = .ok (.pointer (some ⟨g, o + p * 4, none⟩)) wy := fun wy => by
              have k0 : (0 : Int) ≤ (p : Int) := by omega
              simp [go_sem, k0, ltn, Addr.add]
              try omega
            have ixg : ∀ wy : World, (Instr.indexAt 46 (.slice (some ⟨ga, 0, none⟩) (m + 1) gc) (.int .i64 i)).run Try.prog wy = .ok (.pointer (some ⟨ga, i, none⟩)) wy := fun wy => by
              have k0 : (0 : Int) ≤ (i : Int) := by omega
              have k1 : (i : Int) < (m : Int) + 1 := by omega
              simp [go_sem, k0, k1, Addr.add]
              try omega
            obtain ⟨v2, er2, hts⟩ := ts_ex (adds at_ [x1, x2, gi])
            have TS := Lib.hid hts
            have HIT : Hid (itm l (f + i) = (x1, x2, x3, bb)) := Lib.hid (by rw [← HP.out]; exact hit)
            have HGI := Lib.hid hgi
            have mi : Hid (m - i = (m - (i + 1)) + 1) := Lib.hid (by omega)
            have MB : Hid (R28 wr2 at_ x1 x2 gi (fun _ => false) (fun _ => undef) wr2.drew) := Lib.hid ⟨(Below.refl _ _).drew, fun h => (by cases h)⟩
            clear hit y0 y1 y2 y3 hgi hts
            go_wp2_with fail
            refine wp_region_vals [some (.int .i64 at_), some (.slice (some ⟨g, o, none⟩) n c), some (.int .i64 (p : Int)), some (.pointer (some ⟨g, o + p * 4, none⟩)), some (.pointer (some ⟨g, o + p * 4, none⟩)), some (.int .i64 x1), some (.slice (some ⟨g, o, none⟩) n c), some (.int .i64 (p : Int)), some (.pointer (some ⟨g, o + p * 4, none⟩)), some (.pointer (some ⟨g, o + p * 4 + 1, none⟩)), some (.int .i64 x2), some (.slice (some ⟨ga, 0, none⟩) (m + 1) gc), some (.int .i64 (p : Int)), some (.pointer (some ⟨bx, 0, none⟩)), some (.int .i64 (f : Int)), some (.int .i64 (i : Int)), some (.pointer (some ⟨ga, i, none⟩)), some (.int .i64 gi), none, some (.tuple #[.int .i64 v2, .int .i64 er2]), some (.tuple #[.int .i64 v2, .int .i64 er2]), some (.int .i64 v2), some (.int .i64 er2), some (.int .i64 v2), some (.int .i64 er2)] (R28 wr2 at_ x1 x2 gi)
              [some 141, some 142, some 143, some 144, some 145, some 146, some 147, some 148, some 149, some 150, some 151, some 152, some 153, some 154, some 155, some 156, some 157, some 158, some 159, some 160, some 140, some 161, some 162, some 12, some 11] (by kernel_rfl) (by kernel_rfl) (by kernel_rfl) (by kernel_rfl) (by kernel_rfl) (by kernel_rfl) MB.out (fun ie oe ho => ?_) (fun Lz vz wz hL hB => ?_)
            · match ie, ho with
              | 0, ho =>
                obtain rfl := Option.some.inj ho
                intro Az Lz vz wy Kz Ez hB k
                have e12 : Az.eval (.tmp 12) = .int .i64 at_ := Ez.keep1 12 23 (Ez.late 23 _ rfl (by kernel_rfl)) (by kernel_rfl)
                exact wpo_val (v := .int .i64 at_) (run_move e12) (k _ _ rfl (hB.pure 0 _ (by decide) (Below.refl _ _)))
              | 1, ho =>
                obtain rfl := Option.some.inj ho
                intro Az Lz vz wy Kz Ez hB k
                have e0 : Az.eval (.tmp 0) = .slice (some ⟨g, o, none⟩) n c := Ez.out 0 (by kernel_rfl)
                exact wpo_val (v := .slice (some ⟨g, o, none⟩) n c) (run_move e0) (k _ _ rfl (hB.pure 1 _ (by decide) (Below.refl _ _)))
              | 2, ho =>
                obtain rfl := Option.some.inj ho
                intro Az Lz vz wy Kz Ez hB k
                have e17 : Az.eval (.tmp 17) = .int .i64 (p : Int) := Ez.out 17 (by kernel_rfl)
                exact wpo_val (v := .int .i64 (p : Int)) (run_move e17) (k _ _ rfl (hB.pure 2 _ (by decide) (Below.refl _ _)))
              | 3, ho =>
                obtain rfl := Option.some.inj ho
                intro Az Lz vz wy Kz Ez hB k
                have e142 : Az.eval (.tmp 142) = .slice (some ⟨g, o, none⟩) n c := Ez.dep 1 142 (by kernel_rfl) rfl
                have e143 : Az.eval (.tmp 143) = .int .i64 (p : Int) := Ez.dep 2 143 (by kernel_rfl) rfl
                exact wpo_val (v := .pointer (some ⟨g, o + p * 4, none⟩)) (run_index e142 e143 (ix wy)) (k _ _ rfl (hB.pure 3 _ (by decide) (Below.refl _ _)))
              | 4, ho =>
                obtain rfl := Option.some.inj ho
                intro Az Lz vz wy Kz Ez hB k
                have e144 : Az.eval (.tmp 144) = .pointer (some ⟨g, o + p * 4, none⟩) := Ez.dep 3 144 (by kernel_rfl) rfl
                exact wpo_val (v := .pointer (some ⟨g, o + p * 4, none⟩)) (run_field e144 (by simp [go_sem])) (k _ _ rfl (hB.pure 4 _ (by decide) (Below.refl _ _)))
              | 5, ho =>
                obtain rfl := Option.some.inj ho
                intro Az Lz vz wy Kz Ez hB k
                have e145 : Az.eval (.tmp 145) = .pointer (some ⟨g, o + p * 4, none⟩) := Ez.dep 4 145 (by kernel_rfl) rfl
                have q0 := (CL.out wy hB.bel).1
                exact wpo_val (v := .int .i64 x1) (run_load e145 (by simp [go_sem, q0])) (k _ _ rfl (hB.pure 5 _ (by decide) (Below.refl _ _)))
              | 6, ho =>
                obtain rfl := Option.some.inj ho
                intro Az Lz vz wy Kz Ez hB k
                have e0 : Az.eval (.tmp 0) = .slice (some ⟨g, o, none⟩) n c := Ez.out 0 (by kernel_rfl)
                exact wpo_val (v := .slice (some ⟨g, o, none⟩) n c) (run_move e0) (k _ _ rfl (hB.pure 6 _ (by decide) (Below.refl _ _)))
              | 7, ho =>
                obtain rfl := Option.some.inj ho
                intro Az Lz vz wy Kz Ez hB k
                have e17 : Az.eval (.tmp 17) = .int .i64 (p : Int) := Ez.out 17 (by kernel_rfl)
                exact wpo_val (v := .int .i64 (p : Int)) (run_move e17) (k _ _ rfl (hB.pure 7 _ (by decide) (Below.refl _ _)))
              | 8, ho =>
                obtain rfl := Option.some.inj ho
                intro Az Lz vz wy Kz Ez hB k
                have e147 : Az.eval (.tmp 147) = .slice (some ⟨g, o, none⟩) n c := Ez.dep 6 147 (by kernel_rfl) rfl
                have e148 : Az.eval (.tmp 148) = .int .i64 (p : Int) := Ez.dep 7 148 (by kernel_rfl) rfl
                exact wpo_val (v := .pointer (some ⟨g, o + p * 4, none⟩)) (run_index e147 e148 (ix wy)) (k _ _ rfl (hB.pure 8 _ (by decide) (Below.refl _ _)))
              | 9, ho =>
                obtain rfl := Option.some.inj ho
                intro Az Lz vz wy Kz Ez hB k
                have e149 : Az.eval (.tmp 149) = .pointer (some ⟨g, o + p * 4, none⟩) := Ez.dep 8 149 (by kernel_rfl) rfl
                exact wpo_val (v := .pointer (some ⟨g, o + p * 4 + 1, none⟩)) (run_field e149 (by simp [go_sem])) (k _ _ rfl (hB.pure 9 _ (by decide) (Below.refl _ _)))
              | 10, ho =>
                obtain rfl := Option.some.inj ho
                intro Az Lz vz wy Kz Ez hB k
                have e150 : Az.eval (.tmp 150) = .pointer (some ⟨g, o + p * 4 + 1, none⟩) := Ez.dep 9 150 (by kernel_rfl) rfl
                have q0 := (CL.out wy hB.bel).2.1
                exact wpo_val (v := .int .i64 x2) (run_load e150 (by simp [go_sem, q0])) (k _ _ rfl (hB.pure 10 _ (by decide) (Below.refl _ _)))
              | 11, ho =>
                obtain rfl := Option.some.inj ho
                intro Az Lz vz wy Kz Ez hB k
                have e13 : Az.eval (.tmp 13) = .slice (some ⟨ga, 0, none⟩) (m + 1) gc := Ez.out 13 (by kernel_rfl)
                exact wpo_val (v := .slice (some ⟨ga, 0, none⟩) (m + 1) gc) (run_move e13) (k _ _ rfl (hB.pure 11 _ (by decide) (Below.refl _ _)))
              | 12, ho =>
                obtain rfl := Option.some.inj ho
                intro Az Lz vz wy Kz Ez hB k
                have e17 : Az.eval (.tmp 17) = .int .i64 (p : Int) := Ez.out 17 (by kernel_rfl)
                exact wpo_val (v := .int .i64 (p : Int)) (run_move e17) (k _ _ rfl (hB.pure 12 _ (by decide) (Below.refl _ _)))
              | 13, ho =>
                obtain rfl := Option.some.inj ho
                intro Az Lz vz wy Kz Ez hB k
                have e5 : Az.eval (.tmp 5) = .pointer (some ⟨bx, 0, none⟩) := Ez.out 5 (by kernel_rfl)
                exact wpo_val (v := .pointer (some ⟨bx, 0, none⟩)) (run_field e5 (by simp [go_sem])) (k _ _ rfl (hB.pure 13 _ (by decide) (Below.refl _ _)))
              | 14, ho =>
                obtain rfl := Option.some.inj ho
                intro Az Lz vz wy Kz Ez hB k
                have e154 : Az.eval (.tmp 154) = .pointer (some ⟨bx, 0, none⟩) := Ez.dep 13 154 (by kernel_rfl) rfl
                have q0 := (CL.out wy hB.bel).2.2.2
                exact wpo_val (v := .int .i64 (f : Int)) (run_load e154 (by simp [go_sem, q0])) (k _ _ rfl (hB.pure 14 _ (by decide) (Below.refl _ _)))
              | 15, ho =>
                obtain rfl := Option.some.inj ho
                intro Az Lz vz wy Kz Ez hB k
                have e153 : Az.eval (.tmp 153) = .int .i64 (p : Int) := Ez.dep 12 153 (by kernel_rfl) rfl
                have e155 : Az.eval (.tmp 155) = .int .i64 (f : Int) := Ez.dep 14 155 (by kernel_rfl) rfl
                exact wpo_val (v := .int .i64 (i : Int)) (run_bin e153 e155 (by simp [go_sem]) (by have hp := HP.out; simp [go_sem, IntKind.wrap_i64]; omega)) (k _ _ rfl (hB.pure 15 _ (by decide) (Below.refl _ _)))
              | 16, ho =>
                obtain rfl := Option.some.inj ho
                intro Az Lz vz wy Kz Ez hB k
                have e152 : Az.eval (.tmp 152) = .slice (some ⟨ga, 0, none⟩) (m + 1) gc := Ez.dep 11 152 (by kernel_rfl) rfl
                have e156 : Az.eval (.tmp 156) = .int .i64 (i : Int) := Ez.dep 15 156 (by kernel_rfl) rfl
                exact wpo_val (v := .pointer (some ⟨ga, i, none⟩)) (run_index e152 e156 (ixg wy)) (k _ _ rfl (hB.pure 16 _ (by decide) (Below.refl _ _)))
              | 17, ho =>
                obtain rfl := Option.some.inj ho
                intro Az Lz vz wy Kz Ez hB k
                have e157 : Az.eval (.tmp 157) = .pointer (some ⟨ga, i, none⟩) := Ez.dep 16 157 (by kernel_rfl) rfl
                have q0 := (CL.out wy hB.bel).2.2.1
                exact wpo_val (v := .int .i64 gi) (run_load e157 (by simp [go_sem, q0])) (k _ _ rfl (hB.pure 17 _ (by decide) (Below.refl _ _)))
              | 18, ho =>
                obtain rfl := Option.some.inj ho
                intro Az Lz vz wy Kz Ez hB k
                have e141 : Az.eval (.tmp 141) = .int .i64 at_ := Ez.dep 0 141 (by kernel_rfl) rfl
                have e146 : Az.eval (.tmp 146) = .int .i64 x1 := Ez.dep 5 146 (by kernel_rfl) rfl
                have e151 : Az.eval (.tmp 151) = .int .i64 x2 := Ez.dep 10 151 (by kernel_rfl) rfl
                have e158 : Az.eval (.tmp 158) = .int .i64 gi := Ez.dep 17 158 (by kernel_rfl) rfl
                exact wpo_val (run_bsl4 e141 e146 e151 e158 (by simp [go_sem])) (k _ _ trivial hB.build)
              | 19, ho =>
                obtain rfl := Option.some.inj ho
                intro Az Lz vz wy Kz Ez hB k
                have e159 : Az.eval (.tmp 159) = vz 18 := Ez.dep 18 159 (by kernel_rfl) rfl
                obtain ⟨q, hq, hg⟩ := hB.bs (Ez.had 18 (by kernel_rfl))
                refine wpo_call (run_callW (fun _ _ => by kernel_rfl)) (R := fun ez w' => ez = .returned (.tuple #[.int .i64 v2, .int .i64 er2]) ∧ Below wy.heap.size wy w') ?_ ?_
                · simp only [List.map_toArray, List.map_cons, List.map_nil, eval_const, e159, hq]
                  exact r4add4 at_ x1 x2 gi _ v2 er2 LA.out IR.out.1 IR.out.2.1 IR.out.2.2 rfl TS.out q wy hg
                · rintro ez w' ⟨he, hb⟩
                  exact ⟨_, he, k _ _ rfl (hB.pure 19 _ (by decide) (hb))⟩
              | 20, ho =>
                obtain rfl := Option.some.inj ho
                intro Az Lz vz wy Kz Ez hB k
                have e160 : Az.eval (.tmp 160) = .tuple #[.int .i64 v2, .int .i64 er2] := Ez.dep 19 160 (by kernel_rfl) rfl
                exact wpo_val (v := .tuple #[.int .i64 v2, .int .i64 er2]) (run_move e160) (k _ _ rfl (hB.pure 20 _ (by decide) (Below.refl _ _)))
              | 21, ho =>
                obtain rfl := Option.some.inj ho
                intro Az Lz vz wy Kz Ez hB k
                have e140 : Az.eval (.tmp 140) = .tuple #[.int .i64 v2, .int .i64 er2] := Ez.dep 20 140 (by kernel_rfl) rfl
                exact wpo_val (v := .int .i64 v2) (run_ext e140 (by simp [go_sem])) (k _ _ rfl (hB.pure 21 _ (by decide) (Below.refl _ _)))
              | 22, ho =>
                obtain rfl := Option.some.inj ho
                intro Az Lz vz wy Kz Ez hB k
                have e140 : Az.eval (.tmp 140) = .tuple #[.int .i64 v2, .int .i64 er2] := Ez.dep 20 140 (by kernel_rfl) rfl
                exact wpo_val (v := .int .i64 er2) (run_ext e140 (by simp [go_sem])) (k _ _ rfl (hB.pure 22 _ (by decide) (Below.refl _ _)))
              | 23, ho =>
                obtain rfl := Option.some.inj ho
                intro Az Lz vz wy Kz Ez hB k
                have e161 : Az.eval (.tmp 161) = .int .i64 v2 := Ez.dep 21 161 (by kernel_rfl) rfl
                exact wpo_val (v := .int .i64 v2) (run_assign e161) (k _ _ rfl (hB.pure 23 _ (by decide) (Below.refl _ _)))
              | 24, ho =>
                obtain rfl := Option.some.inj ho
                intro Az Lz vz wy Kz Ez hB k
                have e162 : Az.eval (.tmp 162) = .int .i64 er2 := Ez.dep 22 162 (by kernel_rfl) rfl
                exact wpo_val (v := .int .i64 er2) (run_assign e162) (k _ _ rfl (hB.pure 24 _ (by decide) (Below.refl _ _)))
              | ne + 25, ho => simp at ho
            have B7 := Lib.hid hB.bel
            simp only [puts2, mix, Act.put, List.setIfInBounds_toArray, List.set_cons_zero, List.set_cons_succ, Nat.zero_add, Nat.reduceAdd, List.getElem?_cons_zero, List.getElem?_cons_succ]
            clear hL hB MB CL ix ixg c1 T4
            have M7 : Hid (KM IntK 2 wq.heap.size wq wz a1 (i + 1) c1' (done ++ [at_])) := Lib.hid (M2.out.later B7.out)
            cases had : adds at_ [x1, x2, gi] with
            | none =>
              have TS' := TS.out
              rw [had] at TS'
              obtain ⟨rfl, rfl⟩ := TS'
              have RN : R = none := by
                rw [← ER1.out, mi.out, offs_none (by rw [HIT.out, HGI.out]; exact had)]; rfl
              have FB : Hid (Below w.heap.size w wz) := Lib.hid (bel_tr0 K3.out M7.out.bel)
              clear had M2 M7
              go_wp2_with fail
              go_returns
              exact ⟨⟨_, _, rfl, by (try rw [RN]); unfold Of13; exact ⟨rfl, rfl⟩⟩, FB.out⟩
            | some a2 =>
              have TS' := TS.out
              rw [had] at TS'
              obtain ⟨rfl, rfl⟩ := TS'
              have LA2 := Lib.hid (adds_len had LA.out)
              have ER2 : Hid ((offs l f gs (m - (i + 1)) (i + 1) v2).map (fun r => (done ++ [at_]) ++ r) = R) := Lib.hid (by
                rw [← ER1.out, mi.out, offs_some (by rw [HIT.out, HGI.out]; exact had), Option.map_map]
                congr 1
                funext r
                simp)
              clear had M2
              go_wp2_with fail
              go_roundw
              case rel => exact ⟨i + 1, p + 1, v2, a1, c1', done ++ [at_], rfl, rfl, by simp, by omega, Lib.hid (by have := HP.out; omega), Lib.hid (fun _ => LA2.out), M7, Lib.hid (.inl ⟨by omega, ER2.out⟩)⟩
              case measure => have := HP.out; simp [intOf]; omega
          · obtain rfl : i = m := by omega
            have lt2 : ¬ (p : Int) + 1 < T := by have := HP.out; have := HTT.out; omega
            have RN : Hid (R = some (done ++ [at_])) := Lib.hid (by rw [← ER1.out, Nat.sub_self]; rfl)
            go_wp2_with fail
            go_roundw
            case rel => exact ⟨i + 1, p + 1, at_, a1, c1', done ++ [at_], rfl, rfl, by simp, by omega, Lib.hid (by have := HP.out; omega), Lib.hid (fun h => absurd h (by omega)), M2, Lib.hid (.inr ⟨rfl, RN.out⟩)⟩
            case measure => have := HP.out; simp [intOf]; omega
        · have lt' : ¬ (p : Int) < T := by have := HP.out; have := HTT.out; omega
          have RN : R = some done := by
            rcases ER.out with h | h
            · exact absurd h.1 lt
            · exact h.2
          have FIN : Hid (KS IntK wr (.slice pe i ce) done ∧ Below w.heap.size w wr) := Lib.hid ⟨HM.out.ks (by decide), bel_tr0 K3.out HM.out.bel⟩
          clear HM ER
          go_wp2_with fail
          go_returns
          exact ⟨⟨_, _, rfl, by (try rw [RN]); unfold Of13; exact ⟨rfl, FIN.out.1⟩⟩, FIN.out.2⟩
end Go.Proofs.Ytbolifjkhoiphaa
/- Law 13, LineOffsets: the reference outside of what it looks at; the closure under Try. -/
namespace Go.Proofs.Ytbolifjkhoiphaa
open Go.RowKit Go.Proofs.Reg Go.Proofs.Big Lin
set_option linter.unusedVariables false
set_option linter.unusedSimpArgs false
set_option maxRecDepth 100000
theorem r13offs_bad (a : Option Addr) (n c : Nat) (F T W H avail text : Int) (hn : n ≤ 1000000) (hb : F < 0 ∨ (n : Int) < T ∨ T ≤ F) (w : World) :
    Calls Try.prog 24 #[.slice a n c, .agg #[.int .i64 F, .int .i64 T, .int .i64 W, .int .i64 H], .int .i64 avail, .int .i64 text] w fun e w' => e = .returned (.tuple #[.slice none 0 0, .int .i64 0]) ∧ Below w.heap.size w w' := by
  have q : F < 0 ∨ (¬ F < 0 ∧ (n : Int) < T) ∨ (¬ F < 0 ∧ ¬ (n : Int) < T ∧ T ≤ F) := by omega
  rcases q with q1 | ⟨q1, q2⟩ | ⟨q1, q2, q3⟩
  all_goals
    clear hb
    go_enter Try.func24, Try.ntmps24
    go_wp2_with fail
    go_returns
    exact ⟨rfl, by go_grown⟩
theorem r4add2_in (x y : Int) (hx : In64 x) (hy : In64 y) (g : Nat) (w : World) (hg : w.heap[g]? = some (.cells #[.int .i64 x, .int .i64 y] 2 (0, 0))) :
    Calls Try.prog 47 #[.slice (some ⟨g, 0, none⟩) 2 2] w fun e w' => (∃ v er : Int, e = .returned (.tuple #[.int .i64 v, .int .i64 er])) ∧ Below w.heap.size w w' := by
  obtain ⟨v, er, ht⟩ := ts_ex (addAll 0 [x, y])
  refine (r4add_any _ 2 2 [x, y] _ v er w ⟨rfl, by decide, fun _ => ⟨_, rfl, fun k hk => ?_⟩⟩ (Lib.hid (fun v hv => ?_)) (Lib.hid rfl) (Lib.hid ht)).mono fun e w' h => ⟨⟨v, er, h.1⟩, h.2⟩
  · rw [kadd_none', Nat.zero_add]
    have : k = 0 ∨ k = 1 := by omega
    rcases this with rfl | rfl <;> simp [World.cell?, hg]
  · simp at hv
    rcases hv with rfl | rfl
    · exact hx
    · exact hy
set_option maxHeartbeats 2000000 in
theorem r13offs_out (a : Option Addr) (n c : Nat) (F T W H avail text : Int) (hn : n ≤ 1000000) (t0 : ¬ F < 0) (t1 : ¬ (n : Int) < T) (t2 : ¬ T ≤ F) (hA : In64 avail) (hW : -4611686018427387904 ≤ W ∧ W ≤ 4611686018427387904) (ho : ¬ (Ln avail ∧ Ln W)) (w : World) :
    Calls Try.prog 24 #[.slice a n c, .agg #[.int .i64 F, .int .i64 T, .int .i64 W, .int .i64 H], .int .i64 avail, .int .i64 text] w fun e w' => e = .returned (.tuple #[.slice none 0 0, .int .i64 (-1)]) ∧ Below w.heap.size w w' := by
  have q : avail < -17592186044416 ∨ (¬ avail < -17592186044416 ∧ 17592186044416 < avail) ∨ (¬ avail < -17592186044416 ∧ ¬ 17592186044416 < avail ∧ W < -17592186044416) ∨ (¬ avail < -17592186044416 ∧ ¬ 17592186044416 < avail ∧ ¬ W < -17592186044416 ∧ 17592186044416 < W) := by
    unfold Ln at ho; omega
  have HA := Lib.hid hA
  obtain ⟨w0, w1⟩ := hW
  have HN : Hid (In64 (-W)) := Lib.hid ⟨by omega, by omega⟩
  clear ho hA
  rcases q with q1 | ⟨q1, q2⟩ | ⟨q1, q2, q3⟩ | ⟨q1, q2, q3, q4⟩
  all_goals
    go_enter Try.func24, Try.ntmps24
    go_wp2_with fail
    refine (r4add2_in avail (-W) HA.out HN.out _ _ (by first | exact heap_alloc_new _ _ | simpa [World.size_alloc] using heap_alloc_new (w.alloc (.cells #[.int .i64 F, .int .i64 T, .int .i64 W, .int .i64 H] 40)) (.cells #[.int .i64 avail, .int .i64 (-W)] 2))).mono ?_
    rintro e wb ⟨⟨v, er, rfl⟩, hb⟩
    have K1 : Hid (Below w.heap.size w wb) := Lib.hid (bel_tr0 (bel_tr0 (bel_newR _ _) (bel_newR _ _)) hb)
    have T1 : Hid (Tab wb [(w.heap.size, [.int .i64 F, .int .i64 T, .int .i64 W, .int .i64 H])]) := Lib.hid ((((Tab.nil w).new' _ _ rfl).later (bel_newR _ _)).later hb)
    clear hb
    have c2 := T1.out.cell 0 2 rfl rfl
    go_wp2_with fail
    go_returns
    exact ⟨rfl, K1.out⟩
/-- what the program's Offsets answers, in the law's eyes: the places, or which error -/
def LoR (B : Nat) (E : Int) (os : List Int) (e : Ending) (w' : World) : Prop :=
  (E = 0 ∧ ∃ ua un uc, e = .returned (.slice ua un uc) ∧ KS IntK w' (.slice ua un uc) os ∧ ∀ p : Addr, ua = some p → B ≤ p.block) ∨ (E ≠ 0 ∧ e = .panicked (gave E) ∧ os = [])
def LoQ (bg B : Nat) (w : World) (os : List Int) (w' : World) : Prop := But [bg] w w' ∧ ∃ a n c, w'.cell? ⟨bg, 0, none⟩ = some (.slice a n c) ∧ KS IntK w' (.slice a n c) os ∧ ∀ p : Addr, a = some p → B ≤ p.block
set_option maxHeartbeats 4000000 in
theorem lo1_in (b3 b1 b5 b6 b7 : Nat) (s : Value) (F T text wd av E : Int) (os : List Int) (w : World) (h3 : w.cell? ⟨b3, 0, none⟩ = some s) (h11 : w.cell? ⟨b1, 1, none⟩ = some (.int .i64 F)) (h12 : w.cell? ⟨b1, 2, none⟩ = some (.int .i64 T)) (h15 : w.cell? ⟨b1, 5, none⟩ = some (.int .i64 text)) (h5 : w.cell? ⟨b5, 0, none⟩ = some (.int .i64 wd)) (h6 : w.cell? ⟨b6, 0, none⟩ = some (.int .i64 av)) (v7 : Var w ⟨b7, 0, none⟩ (.slice none 0 0))
    (hF : Calls Try.prog 23 #[s, .agg #[.int .i64 F, .int .i64 T, .int .i64 wd, .int .i64 0], .int .i64 av, .int .i64 text] w fun e w' => LoR w.heap.size E os e w' ∧ Below w.heap.size w w') :
    Calls Try.prog 22 #[.pointer (some ⟨b3, 0, none⟩), .pointer (some ⟨b1, 0, none⟩), .pointer (some ⟨b5, 0, none⟩), .pointer (some ⟨b6, 0, none⟩), .pointer (some ⟨b7, 0, none⟩)] w fun e w' => ((E = 0 ∧ e = .returned (.tuple #[])) ∨ (E ≠ 0 ∧ e = .panicked (gave E))) ∧ LoQ b7 w.heap.size w os w' := by
  have FI := Lib.hid hF
  have V7 := Lib.hid v7
  have l7 : b7 < w.heap.size := v7.lt
  clear hF v7
  go_enter Try.func22, Try.ntmps22
  go_wp2_with fail
  refine FI.out.mono ?_
  rintro e w1 ⟨hf, hb⟩
  have W7 := Lib.hid (V7.out.later hb)
  have B1 := Lib.hid (But.of (bs := [b7]) hb)
  rcases hf with ⟨e0, ua, un, uc, rfl, hk, hp⟩ | ⟨e0, rfl, rfl⟩
  · obtain ⟨c7, z7⟩ := W7.out
    have FIN : Hid (LoQ b7 w.heap.size w os (w1.setCell ⟨b7, 0, none⟩ (.slice ua un uc))) := Lib.hid ⟨B1.out.setCell (.inl (by simp)) _, ua, un, uc, (W7.out.set _).c, KS.aside hk (fun p _ _ e => by cases e; have := hp _ rfl; omega) 0 _, fun p e => hp _ e⟩
    have E0 := Lib.hid e0
    clear hk hp hb e0
    go_wp2_with fail
    go_end0
    exact ⟨.inl ⟨E0.out, rfl⟩, FIN.out⟩
  · exact ⟨rfl, .inr ⟨e0, rfl⟩, B1.out, none, 0, 0, W7.out.c, KS.nil IntK _ 0 (by decide) none, fun p e => by cases e⟩
theorem lo1_try (b3 b1 b5 b6 b7 : Nat) (s : Value) (F T text wd av E : Int) (os : List Int) (w : World) (h3 : w.cell? ⟨b3, 0, none⟩ = some s) (h11 : w.cell? ⟨b1, 1, none⟩ = some (.int .i64 F)) (h12 : w.cell? ⟨b1, 2, none⟩ = some (.int .i64 T)) (h15 : w.cell? ⟨b1, 5, none⟩ = some (.int .i64 text)) (h5 : w.cell? ⟨b5, 0, none⟩ = some (.int .i64 wd)) (h6 : w.cell? ⟨b6, 0, none⟩ = some (.int .i64 av)) (v7 : Var w ⟨b7, 0, none⟩ (.slice none 0 0))
    (hF : ∀ wy, Below w.heap.size w wy → Calls Try.prog 23 #[s, .agg #[.int .i64 F, .int .i64 T, .int .i64 wd, .int .i64 0], .int .i64 av, .int .i64 text] wy fun e w' => LoR wy.heap.size E os e w' ∧ Below wy.heap.size wy w') :
    Calls Try.prog 12 #[.func (.func 22) #[] #[.pointer (some ⟨b3, 0, none⟩), .pointer (some ⟨b1, 0, none⟩), .pointer (some ⟨b5, 0, none⟩), .pointer (some ⟨b6, 0, none⟩), .pointer (some ⟨b7, 0, none⟩)]] w fun e w' => e = .returned (.int .i64 E) ∧ But [b7] w w' ∧ ∃ a n c, w'.cell? ⟨b7, 0, none⟩ = some (.slice a n c) ∧ KS IntK w' (.slice a n c) os ∧ ∀ p : Addr, a = some p → w.heap.size ≤ p.block := by
  have ba : Below w.heap.size w (w.alloc (.cells #[.int .i64 0] 29)) := (Below.refl _ _).alloc (Nat.le_refl _) _
  have l7 : b7 < w.heap.size := v7.lt
  have C := lo1_in b3 b1 b5 b6 b7 s F T text wd av E os _ (kcell_on ba h3) (kcell_on ba h11) (kcell_on ba h12) (kcell_on ba h15) (kcell_on ba h5) (kcell_on ba h6) (v7.later ba) (hF _ ba)
  have ns : w.heap.size ∉ [b7] := fun m => by simp at m; omega
  have EE : ∀ w', But [b7] (w.alloc (.cells #[.int .i64 0] 29)) w' → w'.cell? ⟨w.heap.size, 0, none⟩ = some (.int .i64 0) ∧ w'.frozen? ⟨w.heap.size, 0, none⟩ = false := fun w' hb => by
    have := (Var.new w (.int .i64 0) 29).but hb ns
    exact ⟨this.c, this.z⟩
  have FI : ∀ (w2 : World) (x : Value), LoQ b7 (w.alloc (.cells #[.int .i64 0] 29)).heap.size (w.alloc (.cells #[.int .i64 0] 29)) os w2 → But [b7] w (w2.setCell ⟨w.heap.size, 0, none⟩ x) ∧ ∃ a n c, (w2.setCell ⟨w.heap.size, 0, none⟩ x).cell? ⟨b7, 0, none⟩ = some (.slice a n c) ∧ KS IntK (w2.setCell ⟨w.heap.size, 0, none⟩ x) (.slice a n c) os ∧ ∀ p : Addr, a = some p → w.heap.size ≤ p.block := fun w2 x hq => by
    obtain ⟨hb, ua, un, uc, hu, hk, hp⟩ := hq
    have h1 : But [b7] w (w.alloc (.cells #[.int .i64 0] 29)) := (But.refl [b7] w).alloc _
    refine ⟨(h1.trans hb).setCell (.inr (Nat.le_refl _)) _, ua, un, uc, ?_, KS.aside hk (fun p _ _ e => by cases e; have := hp _ rfl; rw [World.size_alloc] at this; omega) 0 _, fun p e => by have := hp p e; rw [World.size_alloc] at this; omega⟩
    rw [World.cell?_setCell_other (h := fun e => by injection e with e _; omega)]; exact hu
  by_cases z : E = 0
  · rw [z]
    refine (try_ret 22 _ w (LoQ b7 (w.alloc (.cells #[.int .i64 0] 29)).heap.size (w.alloc (.cells #[.int .i64 0] 29)) os) (fun _ => by kernel_rfl) (C.mono ?_)).mono ?_
    · rintro e w' ⟨h | h, hq⟩
      · exact ⟨h.2, hq, EE w' hq.1⟩
      · exact absurd z h.1
    · rintro e w' ⟨rfl, w2, hq, rfl⟩
      exact ⟨rfl, FI w2 _ hq⟩
  · refine (try_gave 22 _ E w (LoQ b7 (w.alloc (.cells #[.int .i64 0] 29)).heap.size (w.alloc (.cells #[.int .i64 0] 29)) os) (fun _ => by kernel_rfl) (C.mono ?_)).mono ?_
    · rintro e w' ⟨h | h, hq⟩
      · exact absurd h.1 z
      · exact ⟨h.2, hq, EE w' hq.1⟩
    · rintro e w' ⟨rfl, w2, hq, rfl⟩
      obtain ⟨x1, ua, un, uc, x2, x3, x4⟩ := FI w2 (.int .i64 E) hq
      exact ⟨rfl, x1.alloc _, ua, un, uc, kcell_on (bel_newR _ _) x2, x3.later (bel_newR _ _), x4⟩
end Go.Proofs.Ytbolifjkhoiphaa
/- Law 13, LineOffsets: what both sides answer, told by one error and one list. -/
namespace Go.Proofs.Ytbolifjkhoiphaa
open Go.RowKit Go.Proofs.Reg Go.Proofs.Big Lin
set_option linter.unusedVariables false
set_option linter.unusedSimpArgs false
set_option maxRecDepth 100000
theorem ks_own {w : World} {b n : Nat} {os : List Int} (h : OwnI w b os) (hn : os.length = n) (hm : n ≤ 1000000) : KS IntK w (.slice (some ⟨b, 0, none⟩) n n) os :=
  ri_ks ⟨hn, by omega, fun _ => ⟨_, rfl, fun k hk => by rw [kadd_none', Nat.zero_add]; exact h.cell k (by omega)⟩⟩ (fun p e => by cases e; rfl) (Nat.le_refl _) (by omega)
def erO (o : Option (List Int)) : Int := match o with
  | some _ => 0
  | none => 2
def osO (o : Option (List Int)) : List Int := match o with
  | some os => os
  | none => []
/-- what the reference answers, in the law's eyes -/
def RoR (E : Int) (os : List Int) (e : Ending) (w' : World) : Prop := ∃ u f, e = .returned (.tuple #[u, .int .i64 f]) ∧ (f = -1 ∨ (f = E ∧ KS IntK w' u os))
theorem both_offs (l : List I4) (n : Nat) (F T W avail text : Int) (hn : l.length = n) (hl : n ≤ 30) (hA : In64 avail) (hW : -4611686018427387904 ≤ W ∧ W ≤ 4611686018427387904) (hi : ∀ r ∈ l, InI r) :
    ∃ E os, 0 ≤ E ∧ (∀ (a : Option Addr) (c : Nat) (wy : World), KS IK wy (.slice a n c) l → Calls Try.prog 23 #[.slice a n c, .agg #[.int .i64 F, .int .i64 T, .int .i64 W, .int .i64 0], .int .i64 avail, .int .i64 text] wy fun e w' => LoR wy.heap.size E os e w' ∧ Below wy.heap.size wy w') ∧
      (∀ (a : Option Addr) (c : Nat) (wy : World), KS IK wy (.slice a n c) l → Calls Try.prog 24 #[.slice a n c, .agg #[.int .i64 F, .int .i64 T, .int .i64 W, .int .i64 0], .int .i64 avail, .int .i64 text] wy fun e w' => RoR E os e w' ∧ Below wy.heap.size wy w') := by
  by_cases hb : F < 0 ∨ (n : Int) < T ∨ T ≤ F
  · refine ⟨0, [], by decide, fun a c wy h => ?_, fun a c wy h => ?_⟩
    · refine (loffs_bad a n c F T W 0 avail text (by omega) hb wy).mono fun e w' q => ⟨.inl ⟨rfl, none, 0, 0, q.1, KS.nil IntK _ 0 (by decide) none, fun p e => by cases e⟩, q.2⟩
    · exact (r13offs_bad a n c F T W 0 avail text (by omega) hb wy).mono fun e w' q => ⟨⟨_, _, q.1, .inr ⟨rfl, KS.nil IntK _ 0 (by decide) none⟩⟩, q.2⟩
  · obtain ⟨f, rfl⟩ : ∃ f : Nat, F = f := ⟨F.toNat, by omega⟩
    obtain ⟨m, rfl⟩ : ∃ m : Nat, T = ((f + m + 1 : Nat) : Int) := ⟨(T - f - 1).toNat, by omega⟩
    have hm : f + m + 1 ≤ n := by omega
    obtain ⟨d, er, hT⟩ := tl_ex (avail - W)
    obtain ⟨j, hj⟩ : ∃ j : Bool, j = (text == 4 && decide (0 < d) && decide (f + m + 1 < n)) := ⟨_, rfl⟩
    obtain ⟨o, ho⟩ : ∃ o, offs l f (gapsF d m j) m 0 (indF d text) = o := ⟨_, rfl⟩
    have e2 : er = 0 ∨ er = 2 := by
      rcases hT with ⟨_, _, h⟩ | ⟨_, _, h⟩
      · exact .inl h
      · exact .inr h
    refine ⟨if er = 0 then erO o else er, if er = 0 then osO o else [], ?_, fun a c wy h => ?_, fun a c wy h => ?_⟩
    · cases o <;> rcases e2 with rfl | rfl <;> simp [erO]
    · refine (loffs_any a n c l f m W 0 avail text d er j hm (by omega) ⟨by omega, by omega⟩ hA hT hj hi wy h).mono fun e w' q => ⟨?_, q.2⟩
      rw [ho] at q
      obtain ⟨q, _⟩ := q
      by_cases z : er = 0
      · subst z
        simp only [↓reduceIte] at q ⊢
        cases o with
        | none => exact .inr ⟨by decide, q, rfl⟩
        | some os =>
          obtain ⟨b, q1, q2, q3, q4⟩ := q
          exact .inl ⟨rfl, _, _, _, q1, ks_own q4 q3 (by omega), fun p e => by cases e; exact q2⟩
      · simp only [if_neg z] at q ⊢
        exact .inr ⟨z, q, rfl⟩
    · by_cases hr : Ln avail ∧ Ln W
      · refine (r13offs_any a n c l f m W 0 avail text d er j hm hl hr.2 hr.1 hT hj hi wy h).mono fun e w' q => ⟨?_, q.2⟩
        rw [ho] at q
        obtain ⟨⟨u, f', q1, q2⟩, _⟩ := q
        refine ⟨u, f', q1, .inr ?_⟩
        unfold Of13 at q2
        by_cases z : er = 0
        · simp only [if_pos z] at q2 ⊢
          cases o with
          | none =>
            obtain ⟨rfl, rfl⟩ := q2
            exact ⟨rfl, KS.nil IntK _ 0 (by decide) none⟩
          | some os => exact q2
        · simp only [if_neg z] at q2 ⊢
          obtain ⟨rfl, rfl⟩ := q2
          exact ⟨rfl, KS.nil IntK _ 0 (by decide) none⟩
      · exact (r13offs_out a n c f _ W 0 avail text (by omega) (by omega) (by omega) (by omega) hA hW hr wy).mono fun e w' q => ⟨⟨_, _, q.1, .inl rfl⟩, q.2⟩
/-- two boxes that a drawn region makes and fills -/
structure Bx2 (w0 : World) (x5 x6 : Value) (L : Nat → Bool) (vz : Nat → Value) (wy : World) : Prop where
  bel : Below w0.heap.size w0 wy
  b5 : L 6 = true → ∃ g, vz 6 = .pointer (some ⟨g, 0, none⟩) ∧ w0.heap.size ≤ g ∧ Var wy ⟨g, 0, none⟩ (if L 8 then x5 else .int .i64 0)
  b6 : L 7 = true → ∃ g, vz 7 = .pointer (some ⟨g, 0, none⟩) ∧ w0.heap.size ≤ g ∧ Var wy ⟨g, 0, none⟩ (if L 9 then x6 else .int .i64 0)
  ne : L 6 = true → L 7 = true → vz 6 ≠ vz 7
section
variable {w0 wy w' : World} {x5 x6 : Value} {L : Nat → Bool} {vz : Nat → Value}
theorem Bx2.start (w0 : World) (x5 x6 : Value) : Bx2 w0 x5 x6 (fun _ => false) (fun _ => undef) w0.drew := ⟨(Below.refl _ _).drew, fun h => (by cases h), fun h => (by cases h), fun h => (by cases h)⟩
theorem Bx2.pure (h : Bx2 w0 x5 x6 L vz wy) (j : Nat) (v : Value) (n6 : 6 ≠ j) (n7 : 7 ≠ j) (n8 : 8 ≠ j) (n9 : 9 ≠ j) (hb : Below wy.heap.size wy w') : Bx2 w0 x5 x6 (addL L j) (upd vz j v) w' := by
  have a6 : addL L j 6 = L 6 := by simp [addL, n6]
  have a7 : addL L j 7 = L 7 := by simp [addL, n7]
  have a8 : addL L j 8 = L 8 := by simp [addL, n8]
  have a9 : addL L j 9 = L 9 := by simp [addL, n9]
  have u6 : upd vz j v 6 = vz 6 := by simp [upd, n6]
  have u7 : upd vz j v 7 = vz 7 := by simp [upd, n7]
  refine ⟨bel_tr0 h.bel hb, fun q => ?_, fun q => ?_, fun q r => ?_⟩
  · obtain ⟨g, e, l, hv⟩ := h.b5 (a6 ▸ q)
    exact ⟨g, u6.trans e, l, by rw [a8]; exact hv.later hb⟩
  · obtain ⟨g, e, l, hv⟩ := h.b6 (a7 ▸ q)
    exact ⟨g, u7.trans e, l, by rw [a9]; exact hv.later hb⟩
  · rw [u6, u7]; exact h.ne (a6 ▸ q) (a7 ▸ r)
theorem Bx2.new6 (h : Bx2 w0 x5 x6 L vz wy) (z : L 8 = false) (t : TypeId) : Bx2 w0 x5 x6 (addL L 6) (upd vz 6 (.pointer (some ⟨wy.heap.size, 0, none⟩))) (wy.alloc (.cells #[.int .i64 0] t)) := by
  have hb := bel_newR wy (.cells #[.int .i64 0] t)
  have hs := h.bel.size
  have a8 : addL L 6 8 = L 8 := by simp [addL]
  have a9 : addL L 6 9 = L 9 := by simp [addL]
  have a7 : addL L 6 7 = L 7 := by simp [addL]
  refine ⟨bel_tr0 h.bel hb, fun _ => ⟨wy.heap.size, by simp [upd], hs, by rw [a8, z]; exact Var.new _ _ _⟩, fun q => ?_, fun _ q => ?_⟩
  · obtain ⟨g, e, l, hv⟩ := h.b6 (a7 ▸ q)
    exact ⟨g, by simpa [upd] using e, l, by rw [a9]; exact hv.later hb⟩
  · obtain ⟨g, e, l, hv⟩ := h.b6 (a7 ▸ q)
    have := hv.lt
    simp only [upd]
    simp [e]
    intro e
    rw [← e] at this
    exact absurd this (Nat.lt_irrefl _)
theorem Bx2.new7 (h : Bx2 w0 x5 x6 L vz wy) (z : L 9 = false) (t : TypeId) : Bx2 w0 x5 x6 (addL L 7) (upd vz 7 (.pointer (some ⟨wy.heap.size, 0, none⟩))) (wy.alloc (.cells #[.int .i64 0] t)) := by
  have hb := bel_newR wy (.cells #[.int .i64 0] t)
  have hs := h.bel.size
  have a8 : addL L 7 8 = L 8 := by simp [addL]
  have a9 : addL L 7 9 = L 9 := by simp [addL]
  have a6 : addL L 7 6 = L 6 := by simp [addL]
  refine ⟨bel_tr0 h.bel hb, fun q => ?_, fun _ => ⟨wy.heap.size, by simp [upd], hs, by rw [a9, z]; exact Var.new _ _ _⟩, fun q _ => ?_⟩
  · obtain ⟨g, e, l, hv⟩ := h.b5 (a6 ▸ q)
    exact ⟨g, by simpa [upd] using e, l, by rw [a8]; exact hv.later hb⟩
  · obtain ⟨g, e, l, hv⟩ := h.b5 (a6 ▸ q)
    have := hv.lt
    simp only [upd]
    simp [e]
    intro e
    rw [e] at this
    exact absurd this (Nat.lt_irrefl _)
theorem Bx2.put8 (h : Bx2 w0 x5 x6 L vz wy) (q6 : L 6 = true) {v : Value} {g : Nat} (hg : vz 6 = .pointer (some ⟨g, 0, none⟩)) : Bx2 w0 x5 x6 (addL L 8) (upd vz 8 v) (wy.setCell ⟨g, 0, none⟩ x5) := by
  obtain ⟨g', e, l, hv⟩ := h.b5 q6
  rw [hg] at e
  obtain rfl : g = g' := by injection e with e; injection e with e; injection e
  refine ⟨h.bel.setCell l _, fun _ => ⟨g, by simpa [upd] using hg, l, by simp [addL]; exact hv.set _⟩, fun q => ?_, fun q r => by simpa [upd] using h.ne (by simpa [addL] using q) (by simpa [addL] using r)⟩
  obtain ⟨k, e, l, hv⟩ := h.b6 (by simpa [addL] using q)
  have ne := h.ne q6 (by simpa [addL] using q)
  refine ⟨k, by simpa [upd] using e, l, ?_⟩
  have a9 : addL L 8 9 = L 9 := by simp [addL]
  rw [a9]
  exact hv.other (fun x => ne (by rw [hg, e, x])) _
theorem Bx2.put9 (h : Bx2 w0 x5 x6 L vz wy) (q7 : L 7 = true) {v : Value} {g : Nat} (hg : vz 7 = .pointer (some ⟨g, 0, none⟩)) : Bx2 w0 x5 x6 (addL L 9) (upd vz 9 v) (wy.setCell ⟨g, 0, none⟩ x6) := by
  obtain ⟨g', e, l, hv⟩ := h.b6 q7
  rw [hg] at e
  obtain rfl : g = g' := by injection e with e; injection e with e; injection e
  refine ⟨h.bel.setCell l _, fun q => ?_, fun _ => ⟨g, by simpa [upd] using hg, l, by simp [addL]; exact hv.set _⟩, fun q r => by simpa [upd] using h.ne (by simpa [addL] using q) (by simpa [addL] using r)⟩
  obtain ⟨k, e, l, hv⟩ := h.b5 (by simpa [addL] using q)
  have ne := h.ne (by simpa [addL] using q) q7
  refine ⟨k, by simpa [upd] using e, l, ?_⟩
  have a8 : addL L 9 8 = L 8 := by simp [addL]
  rw [a8]
  exact hv.other (fun x => ne (by rw [hg, e, x])) _
end
end Go.Proofs.Ytbolifjkhoiphaa
/- The walk of LineOffsets. Made by gen/linr.py. -/
namespace Go.Proofs.Ytbolifjkhoiphaa
open Go.RowKit Go.Proofs.Reg Go.Proofs.Big Lin
set_option linter.unusedVariables false
set_option linter.unusedSimpArgs false
set_option maxRecDepth 100000
theorem shr18 (x : Int) (h : In64 x) : ∃ y : Int, (-35184372088832 ≤ y ∧ y ≤ 35184372088832) ∧ ∀ wy : World, (binOp BinOp.shr 2 (.int .i64 x) (.int .u64 18)).run Try.prog wy = .ok (.int .i64 y) wy := by
  refine ⟨x / 262144, ?_, fun wy => ?_⟩
  · obtain ⟨h0, h1⟩ := h; omega
  · obtain ⟨h0, h1⟩ := h
    simp [go_sem]
    skip
theorem ik_at {w : World} {a : Option Addr} {n c : Nat} {l : List Int} (h : KS IntK w (.slice a n c) l) {k : Nat} (lt : k < n) : ∃ g o x, a = some ⟨g, o, none⟩ ∧ l[k]? = some x ∧ w.cell? ⟨g, o + k, none⟩ = some (.int .i64 x) := by
  obtain ⟨a', n', c', e, hn, hc, hm, h5⟩ := h
  simp only [Value.slice.injEq] at e
  obtain ⟨rfl, rfl, rfl⟩ := e
  obtain ⟨g, o, rfl, h6⟩ := h5 (by omega)
  obtain ⟨x, hx⟩ : ∃ x, l[k]? = some x := ⟨_, List.getElem?_eq_getElem (by omega)⟩
  have := h6 k x hx 0 _ rfl
  exact ⟨g, o, x, rfl, hx, by simpa [IntK] using this⟩
set_option maxHeartbeats 8000000 in
theorem law_offsets (a0 : Option Addr) (n0 c0 : Nat) (l0 : List I4) (F T X A text : Int) (hX : In64 X) (hA : In64 A) (w : World) (hW : KS IK w (.slice a0 n0 c0) l0) (hi : ∀ r ∈ l0, InI r) :
    Calls Try.prog 4 #[.agg #[.slice a0 n0 c0, .int .i64 F, .int .i64 T, .int .i64 X, .int .i64 A, .int .i64 text]] w fun e w' => e = .returned (.bool true) ∧ Below w.heap.size w w' := by
  have hmf : ∀ (fn : Fn) (first cap : Array Value) (w : World), (Instr.makeFunc fn first cap).run Try.prog w = .ok (.func fn first cap) w := fun _ _ _ _ => rfl
  have SP := Lib.hid speaks13_any
  have HW := Lib.hid hW
  obtain ⟨xw, hxb, hxw⟩ := shr18 X hX
  obtain ⟨aw, hab, haw⟩ := shr18 A hA
  have HXW := Lib.hid hxw
  have HAW := Lib.hid haw
  obtain ⟨l, hl⟩ : ∃ l, l0.take 30 = l := ⟨_, rfl⟩
  have HL30 : Hid (l.length ≤ 30) := Lib.hid (by rw [← hl, List.length_take]; omega)
  have HBO := Lib.hid (both_offs l l.length F T xw aw text rfl HL30.out ⟨by omega, by omega⟩ ⟨by omega, by omega⟩ (fun r m => hi r (by rw [← hl] at m; exact List.mem_of_mem_take m)))
  have HB13 := Lib.hid (fun w h => both13_any a0 n0 c0 l0 w h)
  rw [hl] at HB13
  clear hW hi hl hX hA hxw haw hxb hab
  obtain ⟨E, os, e0, HP, HQ⟩ := HBO.out
  have HPP := Lib.hid HP
  have HQQ := Lib.hid HQ
  have HE := Lib.hid e0
  clear HP HQ e0 HBO
  go_enter Try.func4, Try.ntmps4
  go_wp2_with fail
  refine (SP.out _).mono ?_
  rintro e w1 ⟨rfl, hb⟩
  have KB := Lib.hid (show Below w.heap.size w w1 from bel_tr0 (bel_newR _ _) hb)
  have T1 : Hid (Tab w1 [(w.heap.size, [.slice a0 n0 c0, .int .i64 F, .int .i64 T, .int .i64 X, .int .i64 A, .int .i64 text])]) := Lib.hid (((Tab.nil w).new' _ _ rfl).later hb)
  clear hb
  have cc := T1.out.cell 0 0 rfl rfl
  go_wp2_with fail
  refine (HB13.out _ (HW.out.later KB.out)).mono ?_
  rintro e w2' ⟨u1, u2, rfl, k1, k2, hb⟩
  obtain ⟨a1, n1, c1, rfl, hn1, _, _, _⟩ := id k1
  obtain ⟨a2, n2, c2, rfl, hn2, _, _, _⟩ := id k2
  have KI1 := Lib.hid k1
  have KI2 := Lib.hid k2
  have E12 : Hid (n1 = l.length ∧ n2 = l.length) := Lib.hid ⟨hn1, hn2⟩
  have K2 := Lib.hid (bel_tr0 KB.out hb)
  have T2 := Lib.hid (T1.out.later hb)
  clear hb k1 k2 hn1 hn2 T1 KB cc
  go_wp2_with fail
  obtain ⟨bp, hbp⟩ : ∃ bp, w.heap.size = bp := ⟨_, rfl⟩
  obtain ⟨b3, hb3⟩ : ∃ b3, w2'.heap.size = b3 := ⟨_, rfl⟩
  obtain ⟨w2, hw2⟩ : ∃ x, w2'.alloc (.cells #[.slice a1 n1 c1] 24) = x := ⟨_, rfl⟩
  have lt2 : w.heap.size < w2'.heap.size := T2.out.lt 0 rfl
  have T3 : Hid (Tab w2 [(b3, [.slice a1 n1 c1]), (bp, [.slice a0 n0 c0, .int .i64 F, .int .i64 T, .int .i64 X, .int .i64 A, .int .i64 text])]) := Lib.hid (by
    rw [← hw2, ← hb3, ← hbp]
    exact T2.out.new' _ _ rfl)
  have K3 : Hid (Below w.heap.size w w2) := Lib.hid (by rw [← hw2]; exact bel_tr0 K2.out (bel_newR _ _))
  have I13 := Lib.hid (KI1.out.later (show Below w2'.heap.size w2' w2 from by rw [← hw2]; exact bel_newR _ _))
  have I23 := Lib.hid (KI2.out.later (show Below w2'.heap.size w2' w2 from by rw [← hw2]; exact bel_newR _ _))
  have PB : Hid (w.heap.size = bp ∧ bp < b3 ∧ b3 < w2.heap.size) := Lib.hid ⟨hbp, by omega, by rw [← hw2, World.size_alloc]; omega⟩
  rw [hw2, hb3, hbp]
  clear hw2 hb3 hbp lt2 T2 K2 KI1 KI2
  have CX : Hid (∀ wy, Below w2.heap.size w2 wy → wy.cell? ⟨bp, 3, none⟩ = some (.int .i64 X)) := Lib.hid (fun wy hb => (T3.out.later hb).cell 1 3 rfl rfl)
  have CA : Hid (∀ wy, Below w2.heap.size w2 wy → wy.cell? ⟨bp, 4, none⟩ = some (.int .i64 A)) := Lib.hid (fun wy hb => (T3.out.later hb).cell 1 4 rfl rfl)
  refine wp_region_vals [some (.pointer (some ⟨bp, 3, none⟩)), some (.int .i64 X), some (.int .i64 xw), some (.pointer (some ⟨bp, 4, none⟩)), some (.int .i64 A), some (.int .i64 aw), none, none, some (undef), some (undef)] (Bx2 w2 (.int .i64 xw) (.int .i64 aw))
    [some 20, some 21, some 22, some 23, some 24, some 25, some 5, some 6, none, none] (by kernel_rfl) (by kernel_rfl) (by kernel_rfl) (by kernel_rfl) (by kernel_rfl) (by kernel_rfl) (Bx2.start w2 _ _) (fun ie oe ho => ?_) (fun Lz vz wz hL hB => ?_)
  · match ie, ho with
    | 0, ho =>
      obtain rfl := Option.some.inj ho
      intro Az Lz vz wy Kz Ez hB k
      have e1 : Az.eval (.tmp 1) = .pointer (some ⟨bp, 0, none⟩) := Ez.out 1 (by kernel_rfl)
      exact wpo_val (v := .pointer (some ⟨bp, 3, none⟩)) (run_field e1 (by simp [go_sem])) (k _ _ rfl (hB.pure 0 _ (by decide) (by decide) (by decide) (by decide) (Below.refl _ _)))
    | 1, ho =>
      obtain rfl := Option.some.inj ho
      intro Az Lz vz wy Kz Ez hB k
      have e20 : Az.eval (.tmp 20) = .pointer (some ⟨bp, 3, none⟩) := Ez.dep 0 20 (by kernel_rfl) rfl
      have q0 := CX.out wy hB.bel
      exact wpo_val (v := .int .i64 X) (run_load e20 (by simp [go_sem, q0])) (k _ _ rfl (hB.pure 1 _ (by decide) (by decide) (by decide) (by decide) (Below.refl _ _)))
    | 2, ho =>
      obtain rfl := Option.some.inj ho
      intro Az Lz vz wy Kz Ez hB k
      have e21 : Az.eval (.tmp 21) = .int .i64 X := Ez.dep 1 21 (by kernel_rfl) rfl
      exact wpo_val (v := .int .i64 xw) (run_bin e21 rfl (by simp [go_sem]) (HXW.out wy)) (k _ _ rfl (hB.pure 2 _ (by decide) (by decide) (by decide) (by decide) (Below.refl _ _)))
    | 3, ho =>
      obtain rfl := Option.some.inj ho
      intro Az Lz vz wy Kz Ez hB k
      have e1 : Az.eval (.tmp 1) = .pointer (some ⟨bp, 0, none⟩) := Ez.out 1 (by kernel_rfl)
      exact wpo_val (v := .pointer (some ⟨bp, 4, none⟩)) (run_field e1 (by simp [go_sem])) (k _ _ rfl (hB.pure 3 _ (by decide) (by decide) (by decide) (by decide) (Below.refl _ _)))
    | 4, ho =>
      obtain rfl := Option.some.inj ho
      intro Az Lz vz wy Kz Ez hB k
      have e23 : Az.eval (.tmp 23) = .pointer (some ⟨bp, 4, none⟩) := Ez.dep 3 23 (by kernel_rfl) rfl
      have q0 := CA.out wy hB.bel
      exact wpo_val (v := .int .i64 A) (run_load e23 (by simp [go_sem, q0])) (k _ _ rfl (hB.pure 4 _ (by decide) (by decide) (by decide) (by decide) (Below.refl _ _)))
    | 5, ho =>
      obtain rfl := Option.some.inj ho
      intro Az Lz vz wy Kz Ez hB k
      have e24 : Az.eval (.tmp 24) = .int .i64 A := Ez.dep 4 24 (by kernel_rfl) rfl
      exact wpo_val (v := .int .i64 aw) (run_bin e24 rfl (by simp [go_sem]) (HAW.out wy)) (k _ _ rfl (hB.pure 5 _ (by decide) (by decide) (by decide) (by decide) (Below.refl _ _)))
    | 6, ho =>
      obtain rfl := Option.some.inj ho
      intro Az Lz vz wy Kz Ez hB k
      exact wpo_val (run_alloc (by simp [go_sem])) (k _ _ trivial (hB.new6 (Ez.late 8 _ rfl (by kernel_rfl)) 2))
    | 7, ho =>
      obtain rfl := Option.some.inj ho
      intro Az Lz vz wy Kz Ez hB k
      exact wpo_val (run_alloc (by simp [go_sem])) (k _ _ trivial (hB.new7 (Ez.late 9 _ rfl (by kernel_rfl)) 2))
    | 8, ho =>
      obtain rfl := Option.some.inj ho
      intro Az Lz vz wy Kz Ez hB k
      have e5 : Az.eval (.tmp 5) = vz 6 := Ez.dep 6 5 (by kernel_rfl) rfl
      have e22 : Az.eval (.tmp 22) = .int .i64 xw := Ez.dep 2 22 (by kernel_rfl) rfl
      obtain ⟨q, hq, hl, hv⟩ := hB.b5 (Ez.had 6 (by kernel_rfl))
      obtain ⟨hc, hz⟩ := hv
      exact wpo_skip (run_store (e5.trans hq) e22 (by simp [go_sem, hc, hz])) (k _ _ rfl (hB.put8 (Ez.had 6 (by kernel_rfl)) hq))
    | 9, ho =>
      obtain rfl := Option.some.inj ho
      intro Az Lz vz wy Kz Ez hB k
      have e6 : Az.eval (.tmp 6) = vz 7 := Ez.dep 7 6 (by kernel_rfl) rfl
      have e25 : Az.eval (.tmp 25) = .int .i64 aw := Ez.dep 5 25 (by kernel_rfl) rfl
      obtain ⟨q, hq, hl, hv⟩ := hB.b6 (Ez.had 7 (by kernel_rfl))
      obtain ⟨hc, hz⟩ := hv
      exact wpo_skip (run_store (e6.trans hq) e25 (by simp [go_sem, hc, hz])) (k _ _ rfl (hB.put9 (Ez.had 7 (by kernel_rfl)) hq))
    | ne + 10, ho => simp at ho
  obtain ⟨g5, e5, l5, v5⟩ := hB.b5 (hL 6 (by decide))
  obtain ⟨g6, e6, l6, v6⟩ := hB.b6 (hL 7 (by decide))
  have ne56 : g5 ≠ g6 := fun x => hB.ne (hL 6 (by decide)) (hL 7 (by decide)) (by rw [e5, e6, x])
  rw [hL 8 (by decide), if_pos rfl] at v5
  rw [hL 9 (by decide), if_pos rfl] at v6
  have V5 := Lib.hid v5
  have V6 := Lib.hid v6
  have BZ := Lib.hid hB.bel
  simp only [puts2, mix, Act.put, List.setIfInBounds_toArray, List.set_cons_zero, List.set_cons_succ, Nat.zero_add, Nat.reduceAdd, List.getElem?_cons_zero, List.getElem?_cons_succ, e5, e6]
  clear hL hB e5 e6 v5 v6 CX CA
  go_wp2_with fail
  obtain ⟨b7, hb7⟩ : ∃ b7, wz.heap.size = b7 := ⟨_, rfl⟩
  obtain ⟨w3, hw3⟩ : ∃ x, wz.alloc (.cells #[.slice none 0 0] 46) = x := ⟨_, rfl⟩
  have B3 : Hid (Below wz.heap.size wz w3) := Lib.hid (by rw [← hw3]; exact bel_newR _ _)
  have V7 : Hid (Var w3 ⟨b7, 0, none⟩ (.slice none 0 0)) := Lib.hid (by rw [← hw3, ← hb7]; exact Var.new _ _ _)
  have N7 : Hid (g5 < b7 ∧ g6 < b7 ∧ b3 < b7 ∧ bp < b7 ∧ w2.heap.size ≤ b7) := Lib.hid (by
    have h1 := V5.out.lt
    have h2 := V6.out.lt
    have h3 := BZ.out.size
    have h4 := PB.out.2.2
    have h5 := PB.out.2.1
    rw [hb7] at h1 h2 h3
    exact ⟨h1, h2, by omega, by omega, by omega⟩)
  rw [hw3]
  simp only [World.size_alloc, hb7]
  clear hw3
  have BB := Lib.hid (bel_tr0 BZ.out B3.out)
  have T4 := Lib.hid (T3.out.later BB.out)
  have K4 := Lib.hid (bel_tr0 K3.out BB.out)
  have I14 := Lib.hid (I13.out.later BB.out)
  have I24 := Lib.hid (I23.out.later BB.out)
  have W5 := Lib.hid (V5.out.later B3.out)
  have W6 := Lib.hid (V6.out.later B3.out)
  have lw3 : b7 < w3.heap.size := V7.out.lt
  clear V5 V6 BZ B3 T3 K3 I13 I24 hb7
  have e1 := E12.out.1
  have e2 := E12.out.2
  subst e1
  have e2' : n2 = l.length := e2
  refine (lo1_try b3 bp g5 g6 b7 (.slice a1 l.length c1) F T text xw aw E os w3 (T4.out.cell 0 0 rfl rfl) (T4.out.cell 1 1 rfl rfl) (T4.out.cell 1 2 rfl rfl) (T4.out.cell 1 5 rfl rfl) W5.out.c W6.out.c V7.out (fun wy hy => HPP.out a1 c1 wy (I14.out.later hy))).mono ?_
  rintro e w4 ⟨rfl, hbut, ga, gn, gc, hg, hk, hgp⟩
  have n7 : ∀ x, x < b7 → x ∉ [b7] := fun x hx m => by simp at m; omega
  have K5 : Hid (Below w.heap.size w w4) := Lib.hid (But.below K4.out hbut K4.out.size (fun i hi => by simp at hi; have := N7.out; have := PB.out; omega))
  have cF := hbut.cell (p := ⟨bp, 1, none⟩) (n7 _ N7.out.2.2.2.1) (T4.out.cell 1 1 rfl rfl)
  have cT := hbut.cell (p := ⟨bp, 2, none⟩) (n7 _ N7.out.2.2.2.1) (T4.out.cell 1 2 rfl rfl)
  have cX := hbut.cell (p := ⟨bp, 5, none⟩) (n7 _ N7.out.2.2.2.1) (T4.out.cell 1 5 rfl rfl)
  have c5 := hbut.cell (p := ⟨g5, 0, none⟩) (n7 _ N7.out.1) W5.out.c
  have c6 := hbut.cell (p := ⟨g6, 0, none⟩) (n7 _ N7.out.2.1) W6.out.c
  have G4 := Lib.hid hg
  have GK := Lib.hid hk
  have I25 : Hid (KS IK w4 (.slice a2 n2 c2) l) := Lib.hid (I23.out.later (But.below BB.out hbut BB.out.size (fun i hi => by simp at hi; have := N7.out; omega)))
  clear hbut hg hk hgp T4 W5 W6 V7 I14 I23 BB n7
  subst e2'
  go_wp2_with fail
  refine (HQQ.out a2 c2 w4 I25.out).mono ?_
  rintro e w5 ⟨⟨u, f, rfl, hf⟩, hb⟩
  have K6 := Lib.hid (bel_tr0 K5.out hb)
  rcases hf with rfl | ⟨rfl, hk⟩
  · clear hb
    go_wp2_with fail
    go_returns
    exact ⟨rfl, K6.out⟩
  · obtain ⟨ua, un, uc, rfl, _, _, _, _⟩ := id hk
    have x1 := kcell_on hb G4.out
    have GK9 := Lib.hid (GK.out.later hb)
    have HU9 := Lib.hid hk
    have gun : gn = un := by have h1 := GK9.out.len.1; have h2 := HU9.out.len.1; omega
    subst gun
    have f0 : ¬ f < 0 := by have := HE.out; omega
    have gb : gn ≤ 9223372036854775807 := by have := GK9.out.len.2.1; have := GK9.out.len.2.2; omega
    clear hb hk cF cT cX c5 c6 G4 GK
    go_wp2_with fail
    go_loopw [11] (fun s11 wr => ∃ (i : Nat), s11 = .int .i64 i ∧ i ≤ gn ∧ ∃ nq, wr = w5.drewN nq) (fun s11 _ => gn - (intOf s11).toNat)
    case atStart => exact ⟨0, rfl, by omega, 0, rfl⟩
    case round =>
      obtain ⟨i, rfl, hin, nq0, rfl⟩ := hrel
      by_cases lt : i < gn
      · have lt' : (i : Int) < (gn : Int) := by omega
        obtain ⟨g1, o1, x, rfl, r1, y0⟩ := ik_at GK9.out lt
        obtain ⟨g2, o2, x', rfl, r2, z0⟩ := ik_at HU9.out lt
        rw [r1] at r2
        injection r2 with r2
        subst r2
        have ix1 : ∀ wy : World, (Instr.indexAt 46 (.slice (some ⟨g1, o1, none⟩) gn gc) (.int .i64 i)).run Try.prog wy = .ok (.pointer (some ⟨g1, o1 + i, none⟩)) wy := fun wy => by
          have k0 : (0 : Int) ≤ (i : Int) := by omega
          simp [go_sem, k0, lt', Addr.add]
          try omega
        have ix2 : ∀ wy : World, (Instr.indexAt 46 (.slice (some ⟨g2, o2, none⟩) gn uc) (.int .i64 i)).run Try.prog wy = .ok (.pointer (some ⟨g2, o2 + i, none⟩)) wy := fun wy => by
          have k0 : (0 : Int) ≤ (i : Int) := by omega
          simp [go_sem, k0, lt', Addr.add]
          try omega
        clear r1
        go_wp2_with fail
        go_quiet (fail)
        go_wp2_with fail
        go_roundw
        case rel => exact ⟨i + 1, by simp, by omega, _, rfl⟩
        case measure => simp [intOf]; omega
      · obtain rfl : i = gn := by omega
        go_wp2_with fail
        go_returns
        exact ⟨rfl, below_drewN K6.out _⟩
end Go.Proofs.Ytbolifjkhoiphaa
