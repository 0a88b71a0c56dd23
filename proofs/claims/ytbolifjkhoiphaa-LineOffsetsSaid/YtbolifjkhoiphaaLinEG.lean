/- Package line: Least, Most; the reference: Width, Ends. -/
import Derived.Test.YtbolifjkhoiphaaLinBD
import Derived.Test.YtbolifjkhoiphaaRefF
import Derived.WalkKit
import Derived.WalkSpells
import Derived.WalkLawsBesides
import Derived.Handy
import Derived.Lib.Hide
import Derived.Deep.QuietTactic
import Derived.BigQuiet
import Derived.LoopTactic
import Derived.Outline
import Derived.Deep.DeepCutAuto
import Derived.Deep.CutBlock
import Derived.RegionTactic
import Derived.BigRegion
namespace Go.Proofs.Ytbolifjkhoiphaa
open Go.RowKit Go.Proofs.Reg Go.Proofs.Big Lin
set_option linter.unusedVariables false
set_option linter.unusedSimpArgs false
set_option maxRecDepth 100000
set_option maxHeartbeats 4000000 in
theorem lleast_any (a : Option Addr) (n c : Nat) (l : List I4) (hl : n ≤ 900000) (hi : ∀ r ∈ l, InI r) (w : World) (h : KS IK w (.slice a n c) l) :
    Calls Try.prog 16 #[.slice a n c] w fun e w' => Told (leastE l 0 0) e ∧ Below w.heap.size w w' := by
  obtain ⟨hn, hc, hm⟩ := h.len
  have LG := Lib.hid (fun (t : Nat) (ht : t ≤ n) w h => llong_any a n c l t t 0 0 (wid l t (segE l t)) (Nat.le_refl _) ht (by omega) ⟨by decide, by decide⟩ hi rfl w h)
  have HK := Lib.hid h
  have HN := Lib.hid hn
  obtain ⟨R, hR⟩ : ∃ R, leastE l 0 0 = R := ⟨_, rfl⟩
  have HR := Lib.hid hR
  rw [hR]
  clear h hi hn hR
  go_enter Try.func16, Try.ntmps16
  go_wp2_with fail
  go_loopw [3, 4] (fun s3 s4 wr => ∃ (f : Nat) (m : Int), s3 = .int .i64 m ∧ s4 = .int .i64 f ∧ f ≤ n ∧ Hid (leastE l f m = R) ∧ Hid (Below w.heap.size w wr)) (fun _ s4 _ => n - (intOf s4).toNat)
  case atStart => exact ⟨0, 0, rfl, rfl, by omega, HR, Lib.hid (Below.refl _ _)⟩
  case round =>
    obtain ⟨f, m, rfl, rfl, fn, ER, KB⟩ := hrel
    by_cases lt : f < n
    · have lt' : (f : Int) < (n : Int) := by omega
      go_wp2_with fail
      refine (LG.out f fn _ (HK.out.later KB.out)).mono ?_
      rintro e w1 ⟨he, hb⟩
      have K1 := Lib.hid (bel_tr0 KB.out hb)
      clear hb
      have sg := segE_le l f (by have := HN.out; omega)
      have g1 : segE l f ≤ n := by have := HN.out; omega
      have g2 : f < segE l f := sg.2 (by have := HN.out; omega)
      clear sg
      obtain ⟨tt, htt⟩ : ∃ tt, segE l f = tt := ⟨_, rfl⟩
      cases hw : wid l f (segE l f) with
      | none =>
        rw [hw] at he
        have : R = none := by rw [← ER.out]; exact leastE_none l f m (by have := HN.out; omega) hw
        subst this
        obtain rfl : e = .panicked (gave 2) := he
        exact ⟨rfl, rfl, K1.out⟩
      | some x =>
        rw [hw] at he
        obtain rfl : e = .returned (.agg #[.int .i64 f, .int .i64 (segE l f : Nat), .int .i64 x, .int .i64 0]) := he
        obtain ⟨x0, x1⟩ := adds_len hw ⟨by decide, by decide⟩
        have ER2 : Hid (leastE l tt (if f = 0 ∨ m < x then x else m) = R) := Lib.hid (by rw [← ER.out, leastE_some l f m x (by have := HN.out; omega) hw, htt])
        rw [htt] at g1 g2 ⊢
        clear hw htt
        have K2 : Hid (Below w.heap.size w (w1.alloc (.cells #[.int .i64 f, .int .i64 tt, .int .i64 x, .int .i64 0] 41))) := Lib.hid (bel_tr0 K1.out (bel_newR _ _))
        by_cases z : f = 0
        · subst z
          have ER3 : Hid (leastE l tt x = R) := Lib.hid (by have := ER2.out; rwa [if_pos (.inl rfl)] at this)
          go_wp2_with fail
          go_roundw
          case rel => exact ⟨tt, x, rfl, rfl, g1, ER3, K2⟩
          case measure => simp [intOf]; omega
        · have zb : ((f : Int) == 0) = false := by simpa using z
          by_cases cm : m < x
          · have ER3 : Hid (leastE l tt x = R) := Lib.hid (by have := ER2.out; rwa [if_pos (.inr cm)] at this)
            go_wp2_with fail
            go_roundw
            case rel => exact ⟨tt, x, rfl, rfl, g1, ER3, K2⟩
            case measure => simp [intOf]; omega
          · have ER3 : Hid (leastE l tt m = R) := Lib.hid (by have := ER2.out; rwa [if_neg (by omega)] at this)
            go_wp2_with fail
            go_roundw
            case rel => exact ⟨tt, m, rfl, rfl, g1, ER3, K2⟩
            case measure => simp [intOf]; omega
    · obtain rfl : f = n := by omega
      have : R = some m := by rw [← ER.out]; exact leastE_out l f m (by have := HN.out; omega)
      subst this
      go_wp2_with fail
      go_returns
      exact ⟨rfl, KB.out⟩
theorem lmost_any (a : Option Addr) (n c : Nat) (l : List I4) (hl : n ≤ 900000) (hi : ∀ r ∈ l, InI r) (w : World) (h : KS IK w (.slice a n c) l) :
    Calls Try.prog 18 #[.slice a n c] w fun e w' => Told (wid l 0 n) e ∧ Below w.heap.size w w' := by
  have GR := Lib.hid (fun w h => lgrown_any a n c l 0 0 n 0 0 (wid l 0 n) (Nat.le_refl _) (Nat.zero_le _) (Nat.le_refl _) (by omega) ⟨by decide, by decide⟩ hi rfl w h)
  have HK := Lib.hid h
  obtain ⟨o, ho⟩ : ∃ o, wid l 0 n = o := ⟨_, rfl⟩
  rw [ho] at GR ⊢
  clear h hi ho
  go_enter Try.func18, Try.ntmps18
  go_wp2_with fail
  refine (GR.out _ HK.out).mono ?_
  rintro e w1 ⟨he, hb⟩
  have K1 := Lib.hid hb
  clear hb
  cases o with
  | none =>
    obtain rfl : e = .panicked (gave 2) := he
    exact ⟨rfl, rfl, K1.out⟩
  | some x =>
    obtain rfl : e = .returned (.int .i64 x) := he
    go_wp2_with fail
    go_returns
    exact ⟨rfl, K1.out⟩
def IntK : Rk Int := ⟨1, fun x => [.int .i64 x], fun _ => rfl, fun r u hu => by simp at hu; subst hu; rfl⟩
def NatK : Rk Nat := ⟨1, fun x => [.int .i64 x], fun _ => rfl, fun r u hu => by simp at hu; subst hu; rfl⟩
theorem ri_of_ks {w : World} {a : Option Addr} {n c : Nat} {xs : List Int} (h : KS IntK w (.slice a n c) xs) : Ri w a n c xs := by
  obtain ⟨a', n', c', e, hn, hc, hm, h5⟩ := h
  simp only [Value.slice.injEq] at e
  obtain ⟨rfl, rfl, rfl⟩ := e
  refine ⟨hn.symm, by omega, fun q => ?_⟩
  obtain ⟨g, o, rfl, hk⟩ := h5 q
  refine ⟨_, rfl, fun k lt => ?_⟩
  have := hk k _ (List.getElem?_eq_getElem (by omega)) 0 _ rfl
  rw [kadd_none', List.getD_eq_getElem?_getD, List.getElem?_eq_getElem (by omega)]
  simpa [IntK] using this
theorem slt_i64 : SlT 46 2 1 (.int .i64 0) 8 := ⟨Try.underlying46, by kernel_rfl, rfl, by decide, by decide⟩
theorem slt_int : SlT 97 3 1 (.int .i64 0) 8 := ⟨Try.underlying97, by kernel_rfl, rfl, by decide, by decide⟩
theorem new_news {w : World} {cs : List Value} {t : TypeId} (j : Nat) (u : Value) (hk : cs[j]? = some u) : (w.alloc (.cells cs.toArray t)).cell? ((⟨w.heap.size, 0, none⟩ : Addr).add j) = some u := by
  rw [kadd_none', Nat.zero_add]
  have hh := heap_alloc_new w (.cells cs.toArray t)
  simp only [World.cell?, hh]
  simpa using hk
set_option maxHeartbeats 8000000 in
theorem r13width_any (a : Option Addr) (n c : Nat) (l : List I4) (f b : Nat) (v er : Int) (hf : f ≤ b) (hb : b ≤ n) (hl : n ≤ 400000) (hi : ∀ r ∈ l, InI r) (ht : Ts (wid l f b) v er) (w : World) (h : KS IK w (.slice a n c) l) :
    Calls Try.prog 21 #[.slice a n c, .int .i64 f, .int .i64 b] w fun e w' => e = .returned (.tuple #[.int .i64 v, .int .i64 er]) ∧ Below w.heap.size w w' := by
  obtain ⟨hn, hc, hm⟩ := h.len
  have HK := Lib.hid h
  have HN := Lib.hid hn
  have HI := Lib.hid hi
  have HT := Lib.hid ht
  obtain ⟨i0, hi0, hz0, hz1, hz2⟩ := slt_i64.info
  clear h hi hn ht
  go_enter Try.func21, Try.ntmps21
  go_wp2_with fail
  go_loopw [8, 9] (fun s8 s9 wr => ∃ (i m : Nat) (pe : Option Addr) (ce : Nat), s8 = .slice pe m ce ∧ s9 = .int .i64 i ∧ f ≤ i ∧ i ≤ b ∧ m ≤ 2 * i ∧ Hid (KM IntK 2 w.heap.size w wr pe m ce (refP l f i b)) ∧ Hid (∀ x ∈ refP l f i b, In64 x)) (fun _ s9 _ => b - (intOf s9).toNat)
  case atStart => exact ⟨f, 0, none, 0, rfl, rfl, Nat.le_refl _, hf, by omega, Lib.hid (by rw [refP_start]; exact KM.start IntK _ (Nat.le_refl _) (Below.refl _ _)), Lib.hid (fun x m => by rw [refP_start] at m; cases m)⟩
  case round =>
    obtain ⟨i, m, pe, ce, rfl, rfl, fi, ib, mi, HM, HX⟩ := hrel
    by_cases lt : i < b
    · have lt' : (i : Int) < (b : Int) := by omega
      have ltn : (i : Int) < (n : Int) := by omega
      obtain ⟨g, o, x1, x2, x3, bb, rfl, hit, hr, y0, y1, y2, y3⟩ := IK.at HK.out (show i < n by omega)
      have IR : Hid (In64 x1 ∧ In64 x2) := Lib.hid (by have := inI_itm HI.out (show i < l.length by have := HN.out; omega); rw [hit] at this; exact ⟨this.1, this.2.1⟩)
      have ix : ∀ wy : World, (Instr.indexAt 25 (.slice (some ⟨g, o, none⟩) n c) (.int .i64 i)).run Try.prog wy = .ok (.pointer (some ⟨g, o + i * 4, none⟩)) wy := fun wy => by
        have k0 : (0 : Int) ≤ (i : Int) := by omega
        simp [go_sem, k0, ltn, Addr.add]
        try omega
      have Y0 := Lib.hid y0
      have Y1 := Lib.hid y1
      have RS := Lib.hid (refP_step l f i b fi lt)
      rw [hit] at RS
      have ms : m + 2 ≤ 1000002 := by omega
      have c0 := kcell_on HM.out.bel y0
      clear y0 y1 y2 y3 hit hr
      go_wp2_with (at_builtin; go_loud (refine wpList_append_own _ rfl _ _ 46 rfl w.heap.size 2 i0 (.int .i64 0) 1 8 Try.underlying46 hi0 hz0 hz1 hz2 rfl (by decide) _ _ _ rfl (HM.out.own.alloc _) ⟨_, 0, none⟩ 1 1 [.int .i64 x1] rfl rfl ?c1 ?c2 ?c3 ?c4 ?c5 ?_))
      case c2 => simp [Value.oneCell']
      case c3 => unfold maxLen; omega
      case c4 => omega
      case c5 => have := HM.out.lt; first | omega | (rw [World.size_alloc]; omega)
      intro v1 w2 hown1 hgrow _
      obtain ⟨a1, c1', rfl, HM2⟩ := HM.out.app (r := x1) hown1 hgrow
      have M2 := Lib.hid HM2
      clear hown1 hgrow HM2 HM c0
      by_cases e : i + 1 < b
      · have e' : (i : Int) + 1 < (b : Int) := by omega
        have c1 := kcell_on M2.out.bel Y1.out
        go_wp2_with (at_builtin; go_loud (refine wpList_append_own _ rfl _ _ 46 rfl w.heap.size 2 i0 (.int .i64 0) 1 8 Try.underlying46 hi0 hz0 hz1 hz2 rfl (by decide) _ _ _ rfl (M2.out.own.alloc _) ⟨_, 0, none⟩ 1 1 [.int .i64 x2] rfl rfl ?d1 ?d2 ?d3 ?d4 ?d5 ?_))
        case d1 => exact fun j u hk => new_news j u hk
        case d2 => simp [Value.oneCell']
        case d3 => unfold maxLen; omega
        case d4 => omega
        case d5 => have := M2.out.lt; first | omega | (rw [World.size_alloc]; omega)
        intro v2 w3 hown2 hgrow _
        obtain ⟨a2, c2', rfl, HM3⟩ := M2.out.app (r := x2) hown2 hgrow
        have M3 : Hid (KM IntK 2 w.heap.size w w3 a2 (m + 1 + 1) c2' (refP l f (i + 1) b)) := Lib.hid (by rw [RS.out, if_pos e]; exact HM3)
        have X3 : Hid (∀ x ∈ refP l f (i + 1) b, In64 x) := Lib.hid (fun x mx => by
          rw [RS.out, if_pos e, List.mem_append, List.mem_append, List.mem_singleton, List.mem_singleton] at mx
          rcases mx with (mx | rfl) | rfl
          · exact HX.out x mx
          · exact IR.out.1
          · exact IR.out.2)
        clear hown2 hgrow HM3 M2 c1
        go_wp2_with fail
        go_roundw
        case rel => exact ⟨i + 1, m + 1 + 1, a2, c2', rfl, by simp, by omega, by omega, by omega, M3, X3⟩
        case measure => simp [intOf]; omega
      · have e' : ¬ (i : Int) + 1 < (b : Int) := by omega
        have M3 : Hid (KM IntK 2 w.heap.size w w2 a1 (m + 1) c1' (refP l f (i + 1) b)) := Lib.hid (by rw [RS.out, if_neg e, List.append_nil]; exact M2.out)
        have X3 : Hid (∀ x ∈ refP l f (i + 1) b, In64 x) := Lib.hid (fun x mx => by
          rw [RS.out, if_neg e, List.append_nil, List.mem_append, List.mem_singleton] at mx
          rcases mx with mx | rfl
          · exact HX.out x mx
          · exact IR.out.1)
        clear M2
        go_wp2_with fail
        go_roundw
        case rel => exact ⟨i + 1, m + 1, a1, c1', rfl, by simp, by omega, by omega, by omega, M3, X3⟩
        case measure => simp [intOf]; omega
    · obtain rfl : i = b := by omega
      have RI : Hid (Ri wr pe m ce (refP l f i i)) := Lib.hid (ri_of_ks (HM.out.ks (by decide)))
      go_wp2_with fail
      refine (r4add_any pe m ce (refP l f i i) (wid l f i) v er _ RI.out (Lib.hid (fun x mx => HX.out x mx)) (Lib.hid (by rw [refP_end l f i i (Nat.le_refl _), addAll_adds]; rfl)) HT).mono ?_
      rintro e w2 ⟨rfl, hb⟩
      have K2 := Lib.hid (bel_tr0 HM.out.bel hb)
      clear hb
      go_wp2_with fail
      go_returns
      exact ⟨rfl, K2.out⟩
end Go.Proofs.Ytbolifjkhoiphaa
/- The reference of lines: Ends, Fill, Least. -/
namespace Go.Proofs.Ytbolifjkhoiphaa
open Go.RowKit Go.Proofs.Reg Go.Proofs.Big Lin
set_option linter.unusedVariables false
set_option linter.unusedSimpArgs false
set_option maxRecDepth 100000
theorem KS.at1 {w : World} {a : Option Addr} {n c : Nat} {l : List Nat} (h : KS NatK w (.slice a n c) l) {k x : Nat} (hk : l[k]? = some x) : ∃ g o, a = some ⟨g, o, none⟩ ∧ w.cell? ⟨g, o + k, none⟩ = some (.int .i64 x) := by
  obtain ⟨a', n', c', e, hn, hc, hm, h5⟩ := h
  simp only [Value.slice.injEq] at e
  obtain ⟨rfl, rfl, rfl⟩ := e
  have lt := (List.getElem?_eq_some_iff.1 hk).1
  obtain ⟨g, o, rfl, h6⟩ := h5 (by omega)
  have := h6 k x hk 0 _ rfl
  exact ⟨g, o, rfl, by simpa [NatK] using this⟩
set_option maxHeartbeats 8000000 in
theorem r13ends_any (a : Option Addr) (n c : Nat) (l : List I4) (hl : n ≤ 400000) (w : World) (h : KS IK w (.slice a n c) l) :
    Calls Try.prog 46 #[.slice a n c] w fun e w' => ∃ u, e = .returned u ∧ KS NatK w' u (endsE l 0) ∧ Below w.heap.size w w' := by
  obtain ⟨hn, hc, hm⟩ := h.len
  have HK := Lib.hid h
  have HN := Lib.hid hn
  obtain ⟨i0, hi0, hz0, hz1, hz2⟩ := slt_int.info
  obtain ⟨R, hR⟩ : ∃ R, endsE l 0 = R := ⟨_, rfl⟩
  have HR := Lib.hid hR
  rw [hR]
  clear h hn hR
  go_enter Try.func46, Try.ntmps46
  go_wp2_with fail
  go_loopw [3, 4] (fun s3 s4 wr => ∃ (i m : Nat) (pe : Option Addr) (ce : Nat) (done : List Nat), s3 = .slice pe m ce ∧ s4 = .int .i64 i ∧ i ≤ n ∧ m ≤ i ∧ Hid (KM NatK 3 w.heap.size w wr pe m ce done) ∧ Hid (done ++ endsE l i = R)) (fun _ s4 _ => n - (intOf s4).toNat)
  case atStart => exact ⟨0, 0, none, 0, [], rfl, rfl, by omega, by omega, Lib.hid (KM.start NatK _ (Nat.le_refl _) (Below.refl _ _)), HR⟩
  case round =>
    obtain ⟨i, m, pe, ce, done, rfl, rfl, hin, mi, HM, ER⟩ := hrel
    by_cases lt : i < n
    · have lt' : (i : Int) < (n : Int) := by omega
      obtain ⟨g, o, x1, x2, x3, bb, rfl, hit, hr, y0, y1, y2, y3⟩ := IK.at HK.out lt
      have ix : ∀ wy : World, (Instr.indexAt 25 (.slice (some ⟨g, o, none⟩) n c) (.int .i64 i)).run Try.prog wy = .ok (.pointer (some ⟨g, o + i * 4, none⟩)) wy := fun wy => by
        have k0 : (0 : Int) ≤ (i : Int) := by omega
        simp [go_sem, k0, lt', Addr.add]
        try omega
      have ES := Lib.hid (endsE_step l i (by have := HN.out; omega))
      rw [hit] at ES
      have c3 := kcell_on HM.out.bel y3
      have ms : m + 1 ≤ 400001 := by omega
      clear y0 y1 y2 y3 hit hr
      by_cases br : bb = true ∨ i + 1 = n
      · have ER2 : Hid ((done ++ [i + 1]) ++ endsE l (i + 1) = R) := Lib.hid (by
          rw [← ER.out, ES.out, if_pos (by rcases br with h | h; exact .inl h; exact .inr (by rw [h]; exact HN.out)), List.append_assoc]; rfl)
        have q : (bb = true) ∨ (bb = false ∧ ((i : Int) + 1 == (n : Int)) = true) := by
          cases bb
          · rcases br with h | h
            · cases h
            · exact .inr ⟨rfl, by simp; omega⟩
          · exact .inl rfl
        clear br ES
        rcases q with rfl | ⟨rfl, q⟩
        all_goals
          go_wp2_with (at_builtin; go_loud (refine wpList_append_own _ rfl _ _ 97 rfl w.heap.size 3 i0 (.int .i64 0) 1 8 Try.underlying97 hi0 hz0 hz1 hz2 rfl (by decide) _ _ _ rfl (HM.out.own.alloc _) ⟨_, 0, none⟩ 1 1 [.int .i64 ((i : Int) + 1)] rfl rfl ?c1 ?c2 ?c3 ?c4 ?c5 ?_))
          case c1 => exact fun j u hk => new_news j u hk
          case c2 => simp [Value.oneCell']
          case c3 => unfold maxLen; omega
          case c4 => omega
          case c5 => have := HM.out.lt; first | omega | (rw [World.size_alloc]; omega)
          intro v1 w2 hown1 hgrow _
          obtain ⟨a1, c1', rfl, HM2⟩ := HM.out.app (r := i + 1) (by simpa [NatK] using hown1) hgrow
          have M2 := Lib.hid HM2
          clear hown1 hgrow HM2 HM c3
          go_wp2_with fail
          go_roundw
          case rel => exact ⟨i + 1, m + 1, a1, c1', done ++ [i + 1], rfl, by simp, by omega, by omega, M2, ER2⟩
          case measure => simp [intOf]; omega
      · have hb : bb = false := by cases bb; rfl; exact absurd (.inl rfl) br
        subst hb
        have q : ((i : Int) + 1 == (n : Int)) = false := by simp; omega
        have ER2 : Hid (done ++ endsE l (i + 1) = R) := Lib.hid (by
          rw [← ER.out, ES.out, if_neg (by rintro (h | h); cases h; exact br (.inr (by rw [h]; exact HN.out.symm)))])
        clear br ES
        go_wp2_with fail
        go_roundw
        case rel => exact ⟨i + 1, m, pe, ce, done, rfl, by simp, by omega, by omega, HM, ER2⟩
        case measure => simp [intOf]; omega
    · obtain rfl : i = n := by omega
      have FIN : Hid (KS NatK wr (.slice pe m ce) R) := Lib.hid (by
        rw [← ER.out, endsE_out l i (by have := HN.out; omega), List.append_nil]
        exact HM.out.ks (by decide))
      go_wp2_with fail
      go_returns
      exact ⟨_, rfl, FIN.out, HM.out.bel⟩
end Go.Proofs.Ytbolifjkhoiphaa
/- The reference of lines: Fill. -/
namespace Go.Proofs.Ytbolifjkhoiphaa
open Go.RowKit Go.Proofs.Reg Go.Proofs.Big Lin
set_option linter.unusedVariables false
set_option linter.unusedSimpArgs false
set_option maxRecDepth 100000
theorem slt_line13 : SlT 33 40 4 (.agg #[.int .i64 0, .int .i64 0, .int .i64 0, .int .i64 0]) 32 := ⟨Try.underlying33, by kernel_rfl, rfl, by decide, by decide⟩
/-- what the reference's Fill answers -/
def Fi13 (o : Option (List L4)) (u : Value) (er : Int) (w' : World) : Prop := match o with
  | some ls => er = 0 ∧ KS LK w' u ls
  | none => er = 2 ∧ u = .slice none 0 0
theorem ends_drop {l : List I4} {E : List Nat} {k f : Nat} (h : E.drop k = endsE l f) (lk : k < E.length) : f < l.length ∧ E[k]? = some (segE l f) ∧ E.drop (k + 1) = endsE l (segE l f) := by
  have hf : f < l.length := by
    rcases Nat.lt_or_ge f l.length with g | g
    · exact g
    · rw [endsE_out l f g] at h
      have := congrArg List.length h
      rw [List.length_drop] at this
      simp at this
      omega
  rw [endsE_cons l f hf, List.drop_eq_getElem_cons lk] at h
  injection h with h1 h2
  exact ⟨hf, by rw [List.getElem?_eq_getElem lk, h1], h2⟩
theorem ends_done {l : List I4} {E : List Nat} {k f : Nat} (h : E.drop k = endsE l f) (lk : E.length ≤ k) : l.length ≤ f := by
  rcases Nat.lt_or_ge f l.length with g | g
  · rw [List.drop_eq_nil_of_le lk, endsE_cons l f g] at h
    cases h
  · exact g
theorem bel_mono {α : Type} {K : Rk α} {e : TypeId} {w1 w2 w3 : World} {pe : Option Addr} {n ce : Nat} {rs : List α} (h : KM K e w1.heap.size w1 w2 pe n ce rs) (k : Below w2.heap.size w2 w3) : Below w1.heap.size w1 w3 := bel_tr0 h.bel k
theorem tab1_set {w : World} {b : Nat} {x0 x1 x2 x3 : Value} (h : Tab w [(b, [x0, x1, x2, x3])]) (i : Nat) (v : Value) : Tab (w.setCell ⟨b, i, none⟩ v) [(b, ([x0, x1, x2, x3] : List Value).set i v)] :=
  h.set 0 i v rfl (fun j b' vs' hj nj => by
    match j, nj, hj with
    | j + 1, _, hj => simp at hj)
set_option maxHeartbeats 16000000 in
theorem r13fill_any (a : Option Addr) (n c : Nat) (l : List I4) (av low : Int) (hl : n ≤ 200000) (ha : In64 av) (hlow : In64 low) (hi : ∀ r ∈ l, InI r) (w : World) (h : KS IK w (.slice a n c) l) :
    Calls Try.prog 19 #[.slice a n c, .int .i64 av, .int .i64 low] w fun e w' => ∃ u er, e = .returned (.tuple #[u, .int .i64 er]) ∧ Fi13 (fillE l av low 0) u er w' ∧ Below w.heap.size w w' := by
  obtain ⟨hn, hc, hm⟩ := h.len
  have WD := Lib.hid (fun f b v er hf hb ht w h => r13width_any a n c l f b v er hf hb (by omega) hi ht w h)
  have HK := Lib.hid h
  have HN := Lib.hid hn
  have HI := Lib.hid hi
  obtain ⟨av0, av1⟩ := ha
  obtain ⟨R, hR⟩ : ∃ R, fillE l av low 0 = R := ⟨_, rfl⟩
  have HR := Lib.hid hR
  rw [hR]
  obtain ⟨i0, hi0, hz0, hz1, hz2⟩ := slt_line13.info
  have LO := Lib.hid hlow
  clear h hi hn hR hlow
  go_enter Try.func19, Try.ntmps19
  go_wp2_with fail
  refine (r13ends_any a n c l (by omega) _ HK.out).mono ?_
  rintro e w1 ⟨u, rfl, hE, hb⟩
  obtain ⟨E, hEE⟩ : ∃ E, endsE l 0 = E := ⟨_, rfl⟩
  rw [hEE] at hE
  obtain ⟨ea, en, ec, rfl, hen, _, _, _⟩ := id hE
  have HE := Lib.hid hE
  have HEE := Lib.hid hEE
  have HEN := Lib.hid hen
  have en0 : en ≤ n := by have := endsE_len l (l.length - 0) 0 rfl; rw [hEE] at this; have := HN.out; omega
  have K1 := Lib.hid hb
  clear hE hEE hen hb
  go_wp2_with fail
  go_loopw [8, 10, 11] (fun s8 s10 s11 wr => ∃ (f k m : Nat) (pe : Option Addr) (ce : Nat) (done : List L4), s8 = .slice pe m ce ∧ s10 = .int .i64 f ∧ s11 = .int .i64 k ∧ f ≤ n ∧ k ≤ en ∧ m ≤ k ∧ Hid (E.drop k = endsE l f) ∧ Hid ((fillE l av low f).map (fun r => done ++ r) = R) ∧ Hid (KM LK 40 w1.heap.size w1 wr pe m ce done)) (fun _ _ s11 _ => en - (intOf s11).toNat)
  case atStart => exact ⟨0, 0, 0, none, 0, [], rfl, rfl, rfl, by omega, by omega, by omega, Lib.hid (by rw [List.drop_zero]; exact HEE.out.symm), Lib.hid (by rw [HR.out]; cases R <;> rfl), Lib.hid (KM.start LK _ (Nat.le_refl _) (Below.refl _ _))⟩
  case round =>
    obtain ⟨f, k, m, pe, ce, done, rfl, rfl, rfl, fn, ken, mk, ED, ER, HM⟩ := hrel
    by_cases lt : k < en
    · have lt' : (k : Int) < (en : Int) := by omega
      obtain ⟨fl, ek, ed⟩ := ends_drop ED.out (show k < E.length by have := HEN.out; omega)
      have fn' : f < n := by have := HN.out; omega
      have sg := segE_le l f (by omega)
      have s1 : segE l f ≤ n := by have := HN.out; omega
      have s2 : f < segE l f := sg.2 fl
      obtain ⟨ge, oe, rfl, ce0⟩ := KS.at1 (HE.out.later HM.out.bel) ek
      have CE : Hid (∀ (k' x' : Nat), E[k']? = some x' → ∀ wy, Below w1.heap.size w1 wy → wy.cell? ⟨ge, oe + k', none⟩ = some (.int .i64 x')) := Lib.hid (fun k' x' hk wy hb => by
        obtain ⟨g', o', e', c'⟩ := KS.at1 (HE.out.later hb) hk
        simp only [Option.some.injEq, Addr.mk.injEq] at e'
        obtain ⟨rfl, rfl, _⟩ := e'
        exact c')
      have IX : Hid (∀ (k' : Nat), k' < en → ∀ wy : World, (Instr.indexAt 97 (.slice (some ⟨ge, oe, none⟩) en ec) (.int .i64 k')).run Try.prog wy = .ok (.pointer (some ⟨ge, oe + k', none⟩)) wy) := Lib.hid (fun k' hk' wy => by
        have k0 : (0 : Int) ≤ (k' : Int) := by omega
        have k1 : (k' : Int) < (en : Int) := by omega
        simp [go_sem, k0, k1, Addr.add]
        try omega)
      have ix := IX.out k lt
      have ED2 := Lib.hid ed
      have EK := Lib.hid ek
      obtain ⟨t0, ht0⟩ : ∃ t0, segE l f = t0 := ⟨_, rfl⟩
      have HT0 := Lib.hid ht0
      rw [ht0] at ce0 s1 s2 ED2 EK
      obtain ⟨v, er, ht⟩ := ts_ex (wid l f t0)
      have WD0 := Lib.hid (WD.out f t0 v er (by omega) s1 ht)
      clear sg ek ed ht0 fl
      go_wp2_with fail
      refine (WD0.out _ (HK.out.later (bel_tr0 K1.out HM.out.bel))).mono ?_
      rintro e w2 ⟨rfl, hb⟩
      have M2 := Lib.hid (HM.out.later hb)
      clear hb HM ce0 WD0
      cases hw : wid l f t0 with
      | none =>
        rw [hw] at ht
        obtain ⟨rfl, rfl⟩ := ht
        have : R = none := by rw [← ER.out, fillE_none l av low f (by have := HN.out; omega) (by rw [firstE, HT0.out, hw])]; rfl
        subst this
        have FIN : Hid (Below w.heap.size w w2) := Lib.hid (bel_tr0 K1.out M2.out.bel)
        go_wp2_with fail
        go_returns
        exact ⟨_, _, rfl, ⟨rfl, rfl⟩, FIN.out⟩
      | some x0 =>
        rw [hw] at ht
        obtain ⟨rfl, rfl⟩ := ht
        have HW0 := Lib.hid hw
        have L0 := Lib.hid (adds_len hw ⟨by decide, by decide⟩)
        have F0 : Hid (firstE l av f = lineE l av f t0 v) := Lib.hid (by rw [firstE, HT0.out, hw])
        have ce0 := CE.out k t0 EK.out _ M2.out.bel
        clear hw
        go_upto_block 2 with fail
        obtain ⟨b, hb9⟩ : ∃ b, w2.heap.size = b := ⟨_, rfl⟩
        obtain ⟨w3, hw3⟩ : ∃ w3, w2.alloc (.cells #[.int .i64 f, .int .i64 t0, .int .i64 v, .int .i64 low] 40) = w3 := ⟨_, rfl⟩
        have T3 : Hid (Tab w3 [(b, [.int .i64 f, .int .i64 t0, .int .i64 v, .int .i64 low])]) := Lib.hid (by rw [← hw3, ← hb9]; exact (Tab.nil w2).new' _ _ rfl)
        have B3 : Hid (Below w2.heap.size w2 w3) := Lib.hid (by rw [← hw3]; exact bel_newR _ _)
        have lb : w2.heap.size ≤ b := by omega
        rw [hw3, hb9]
        clear hw3 hb9 ce0 ix
        go_cut [11] (fun s11 wx => ∃ (k' t : Nat) (x : Int), s11 = .int .i64 k' ∧ k < k' ∧ k' ≤ en ∧ f < t ∧ t ≤ n ∧ Hid (E.drop k' = endsE l t) ∧ Hid (firstE l av f = some (t, x)) ∧ Hid (Below w2.heap.size w2 wx) ∧ Hid (Tab wx [(b, [.int .i64 f, .int .i64 t, .int .i64 x, .int .i64 low])]))
        case first =>
          go_wp2_with fail
          go_loopw [11] (fun s11 wx => ∃ (k' t : Nat) (x : Int), s11 = .int .i64 k' ∧ k < k' ∧ k' ≤ en ∧ f < t ∧ t ≤ n ∧ Hid (E.drop k' = endsE l t) ∧ Hid (wid l f t = some x) ∧ Hid (firstE l av f = lineE l av f t x) ∧ Hid (Below w2.heap.size w2 wx) ∧ Hid (Tab wx [(b, [.int .i64 f, .int .i64 t, .int .i64 x, .int .i64 low])])) (fun s11 _ => en - (intOf s11).toNat)
          case atStart => exact ⟨k + 1, t0, v, by simp, by omega, by omega, s2, s1, ED2, HW0, F0, B3, T3⟩
          case round =>
            clear B3 T3 HW0 F0 L0
            obtain ⟨k', t, x, rfl, kk, ke, ft, tn, EDt, HWt, Ft, HB, HT⟩ := hrel
            by_cases ltk : k' < en
            · have ltk' : (k' : Int) < (en : Int) := by omega
              obtain ⟨tl, ek, ed⟩ := ends_drop EDt.out (show k' < E.length by have := HEN.out; omega)
              have sg := segE_le l t (by omega)
              have g1 : segE l t ≤ n := by have := HN.out; omega
              have g2 : t < segE l t := sg.2 tl
              obtain ⟨tt, htt⟩ : ∃ tt, segE l t = tt := ⟨_, rfl⟩
              have HTT := Lib.hid htt
              rw [htt] at ek ed g1 g2
              have TL := Lib.hid tl
              have EDD := Lib.hid ed
              have ix := IX.out k' ltk
              have B1 : Hid (Below w1.heap.size w1 wr) := Lib.hid (bel_mono M2.out HB.out)
              have ce1 := CE.out k' tt ek _ B1.out
              have EK' := Lib.hid ek
              obtain ⟨v', er', ht'⟩ := ts_ex (wid l f tt)
              have WD1 := Lib.hid (WD.out f tt v' er' (by omega) g1 ht')
              have WS : Hid (wid l f tt = adds x (parts l f t tt)) := Lib.hid (wid_split l f t tt x (by omega) (by omega) HWt.out)
              clear sg ek ed htt tl
              go_wp2_with fail
              refine (WD1.out _ (HK.out.later (bel_tr0 K1.out B1.out))).mono ?_
              rintro e w4 ⟨rfl, hb⟩
              have B4 := Lib.hid (bel_tr0 HB.out hb)
              have T4 := Lib.hid (HT.out.later hb)
              have B14 : Hid (Below w1.heap.size w1 w4) := Lib.hid (bel_mono M2.out B4.out)
              clear hb WD1 ce1 HB HT B1
              cases hw : wid l f tt with
              | none =>
                rw [hw] at ht'
                obtain ⟨rfl, rfl⟩ := ht'
                have : R = none := by
                  rw [← ER.out, fillE_none l av low f (by have := HN.out; omega) (by rw [Ft.out]; exact lineE_none l av f t x TL.out (by rw [HTT.out, ← WS.out, hw]))]; rfl
                subst this
                have FIN : Hid (Below w.heap.size w w4) := Lib.hid (bel_tr0 K1.out B14.out)
                clear hw
                go_wp2_with fail
                go_returns
                exact ⟨_, _, rfl, ⟨rfl, rfl⟩, FIN.out⟩
              | some y =>
                rw [hw] at ht'
                obtain ⟨rfl, rfl⟩ := ht'
                have HWy := Lib.hid hw
                have ce1 := CE.out k' tt EK'.out _ B14.out
                have lt4 : b < w4.heap.size := T4.out.lt 0 rfl
                clear hw
                by_cases cmp : av < v'
                · have FF : Hid (firstE l av f = some (t, x)) := Lib.hid (by rw [Ft.out]; exact lineE_stop l av f t x v' TL.out (by rw [HTT.out, ← WS.out]; exact HWy.out) cmp)
                  go_wp2_with fail
                  go_meet
                  exact ⟨k', t, x, rfl, kk, ke, ft, tn, EDt, FF, B4, T4⟩
                · have Ft2 : Hid (firstE l av f = lineE l av f tt v') := Lib.hid (by rw [Ft.out, lineE_more l av f t x v' TL.out (by rw [HTT.out, ← WS.out]; exact HWy.out) cmp, HTT.out])
                  have c1 := T4.out.cell 0 1 rfl rfl
                  have c2 := T4.out.cell 0 2 rfl rfl
                  have f1 := T4.out.froz 0 1 rfl rfl
                  have f2 := T4.out.froz 0 2 rfl rfl
                  have T5 : Hid (Tab ((w4.setCell ⟨b, 1, none⟩ (.int .i64 tt)).setCell ⟨b, 2, none⟩ (.int .i64 v')) [(b, [.int .i64 f, .int .i64 tt, .int .i64 v', .int .i64 low])]) := Lib.hid (tab1_set (tab1_set T4.out 1 (.int .i64 tt)) 2 (.int .i64 v'))
                  have B5 : Hid (Below w2.heap.size w2 ((w4.setCell ⟨b, 1, none⟩ (.int .i64 tt)).setCell ⟨b, 2, none⟩ (.int .i64 v'))) := Lib.hid ((B4.out.setCell lb _).setCell lb _)
                  go_wp2_with fail
                  go_roundw
                  case rel => exact ⟨k' + 1, tt, v', by simp, by omega, by omega, by omega, g1, EDD, HWy, Ft2, B5, T5⟩
                  case measure => simp [intOf]; omega
            · obtain rfl : k' = en := by omega
              have tl := ends_done EDt.out (by have := HEN.out; omega)
              have FF : Hid (firstE l av f = some (t, x)) := Lib.hid (by rw [Ft.out, lineE_out l av f t x tl])
              go_wp2_with fail
              go_meet
              exact ⟨k', t, x, rfl, kk, ke, ft, tn, EDt, FF, HB, HT⟩
        case rest =>
          obtain ⟨k', t, x, rfl, kk, ke, ft, tn, EDt, FF, HB, HT⟩ := hcut
          obtain ⟨H, hH⟩ : ∃ H, highF l low f t = H := ⟨_, rfl⟩
          have HH := Lib.hid hH
          have ER2 : Hid ((fillE l av low t).map (fun r => (done ++ [(f, t, x, H)]) ++ r) = R) := Lib.hid (by
            rw [← ER.out, fillE_some l av low f (t, x) (by have := HN.out; omega) FF.out, Option.map_map]
            congr 1
            funext r
            dsimp only [Function.comp]
            rw [hH, List.append_assoc]; rfl)
          clear hH ER L0 F0 HW0 T3 B3
          have c0 := HT.out.cell 0 0 rfl rfl
          go_wp2_with fail
          go_loopw [17] (fun s17 wx => ∃ (i : Nat) (hh : Int), s17 = .int .i64 i ∧ f ≤ i ∧ i ≤ t ∧ Hid (highL ((l.drop i).take (t - i)) hh = H) ∧ Hid (Below w2.heap.size w2 wx) ∧ Hid (Tab wx [(b, [.int .i64 f, .int .i64 t, .int .i64 x, .int .i64 hh])])) (fun s17 _ => t - (intOf s17).toNat)
          case atStart => exact ⟨f, low, rfl, Nat.le_refl _, by omega, HH, HB, HT⟩
          case round =>
            clear HB HT c0
            obtain ⟨i, hh, rfl, fi, it, EH, HB, HT⟩ := hrel
            have c1 := HT.out.cell 0 1 rfl rfl
            have c3 := HT.out.cell 0 3 rfl rfl
            have f3 := HT.out.froz 0 3 rfl rfl
            have B14 : Hid (Below w1.heap.size w1 wr) := Lib.hid (bel_mono M2.out HB.out)
            by_cases lti : i < t
            · have lti' : (i : Int) < (t : Int) := by omega
              have ltn : (i : Int) < (n : Int) := by omega
              obtain ⟨g, o, x1, x2, x3, bb, rfl, hit, hr, y0, y1, y2, y3⟩ := IK.at HK.out (show i < n by omega)
              have ix2 : ∀ wy : World, (Instr.indexAt 25 (.slice (some ⟨g, o, none⟩) n c) (.int .i64 i)).run Try.prog wy = .ok (.pointer (some ⟨g, o + i * 4, none⟩)) wy := fun wy => by
                have k0 : (0 : Int) ≤ (i : Int) := by omega
                simp [go_sem, k0, ltn, Addr.add]
                try omega
              have d2 := kcell_on (bel_tr0 K1.out B14.out) y2
              have EH2 : Hid (highL ((l.drop (i + 1)).take (t - (i + 1))) (max hh x3) = H) := Lib.hid (by
                have ln : i < l.length := by have := HN.out; omega
                have e : l[i]'ln = (x1, x2, x3, bb) := (List.getElem?_eq_some_iff.1 hr).2
                rw [← EH.out, List.drop_eq_getElem_cons ln, show t - i = (t - (i + 1)) + 1 by omega, List.take_succ_cons, e]; rfl)
              clear y0 y1 y2 y3 hit hr
              have T5d : Hid (Tab ((wr.setCell ⟨b, 3, none⟩ (.int .i64 (max hh x3))).drew) [(b, [.int .i64 f, .int .i64 t, .int .i64 x, .int .i64 (max hh x3)])]) := Lib.hid ((tab1_set HT.out 3 (.int .i64 (max hh x3))).later ((Below.refl _ _).drew))
              have B5d : Hid (Below w2.heap.size w2 ((wr.setCell ⟨b, 3, none⟩ (.int .i64 (max hh x3))).drew)) := Lib.hid ((HB.out.setCell lb _).drew)
              have T5 : Hid (Tab (wr.setCell ⟨b, 3, none⟩ (.int .i64 (max hh x3))) [(b, [.int .i64 f, .int .i64 t, .int .i64 x, .int .i64 (max hh x3)])]) := Lib.hid (tab1_set HT.out 3 (.int .i64 (max hh x3)))
              have B5 : Hid (Below w2.heap.size w2 (wr.setCell ⟨b, 3, none⟩ (.int .i64 (max hh x3)))) := Lib.hid (HB.out.setCell lb _)
              go_wp2_with fail
              go_region
              all_goals
                go_wp2_with fail
                go_roundw
                case rel => exact ⟨i + 1, max hh x3, by simp, by omega, by omega, EH2, B5d, T5d⟩
                case measure => simp [intOf]; omega
            · obtain rfl : i = t := by omega
              have : hh = H := by rw [← EH.out, Nat.sub_self, List.take_zero]; rfl
              subst this
              have c2 := HT.out.cell 0 2 rfl rfl
              have c0 := HT.out.cell 0 0 rfl rfl
              have ME := Lib.hid (M2.out.later HB.out)
              have lbw : b < wr.heap.size := HT.out.lt 0 rfl
              have ms : m + 1 ≤ 200001 := by omega
              go_wp2_with (at_builtin; go_loud (refine wpList_append_own _ rfl _ _ 33 rfl w1.heap.size 40 i0 (.agg #[.int .i64 0, .int .i64 0, .int .i64 0, .int .i64 0]) 4 32 Try.underlying33 hi0 hz0 hz1 hz2 rfl (by decide) _ _ _ rfl (ME.out.own.alloc _) ⟨_, 0, none⟩ 1 1 [.int .i64 f, .int .i64 i, .int .i64 x, .int .i64 hh] rfl rfl ?c1 ?c2 ?c3 ?c4 ?c5 ?_))
              case c1 => exact fun j u hk => new_news j u hk
              case c2 => simp [Value.oneCell']
              case c3 => unfold maxLen; omega
              case c4 => omega
              case c5 => have := ME.out.lt; first | omega | (rw [World.size_alloc]; omega)
              intro v1 w5 hown1 hgrow _
              obtain ⟨a1, c1', rfl, HM5⟩ := ME.out.app (r := (f, i, x, hh)) hown1 hgrow
              have M5 := Lib.hid HM5
              have d1 : w5.cell? ⟨b, 1, none⟩ = some (.int .i64 i) := by
                have e := hgrow.block b (by rw [World.size_alloc]; omega) (fun e => by
                  have := (M2.out.own.lt b e.symm).2
                  omega)
                rw [World.cell?_of_block e]
                exact kcell_on (bel_newR _ _) c1
              clear hown1 hgrow HM5 ME c0 c1 c2 c3 f3
              go_wp2_with fail
              go_roundw
              case rel => exact ⟨i, k', m + 1, a1, c1', done ++ [(f, i, x, hh)], rfl, rfl, rfl, by omega, ke, by omega, EDt, ER2, M5⟩
              case measure => simp [intOf]; omega
    · obtain rfl : k = en := by omega
      have nl := ends_done ED.out (by have := HEN.out; omega)
      have : R = some done := by rw [← ER.out, fillE_out l av low f nl]; simp
      subst this
      have FIN : Hid (Fi13 (some done) (.slice pe m ce) 0 wr ∧ Below w.heap.size w wr) := Lib.hid ⟨⟨rfl, HM.out.ks (by decide)⟩, bel_tr0 K1.out HM.out.bel⟩
      go_wp2_with fail
      go_returns
      exact ⟨_, _, rfl, FIN.out.1, FIN.out.2⟩
end Go.Proofs.Ytbolifjkhoiphaa
