/- Package line: Least, Most; the reference: Width, Ends. -/
import Derived.Test.YtmelbgabiklojaaLinBD
import Derived.Test.YtmelbgabiklojaaRefF
import Derived.WalkKit
import Derived.WalkSpells
import Derived.WalkLawsBesides
import Derived.Handy
import Derived.Lib.Hide
import Derived.Deep.QuietTactic
import Derived.BigQuiet
import Derived.LoopTactic
import Derived.Outline
import Derived.Deep.DeepCutAuto
import Derived.Deep.CutBlock
import Derived.RegionTactic
import Derived.BigRegion
namespace Go.Proofs.Ytmelbgabiklojaa
open Go.RowKit Go.Proofs.Reg Go.Proofs.Big Lin
set_option linter.unusedVariables false
set_option linter.unusedSimpArgs false
set_option maxRecDepth 100000
set_option maxHeartbeats 4000000 in
theorem lleast_any (a : Option Addr) (n c : Nat) (l : List I4) (hl : n ≤ 900000) (hi : ∀ r ∈ l, InI r) (w : World) (h : KS IK w (.slice a n c) l) :
    Calls Try.prog 15 #[.slice a n c] w fun e w' => Told (leastE l 0 0) e ∧ Below w.heap.size w w' := by
  obtain ⟨hn, hc, hm⟩ := h.len
  have LG := Lib.hid (fun (t : Nat) (ht : t ≤ n) w h => llong_any a n c l t t 0 0 (wid l t (segE l t)) (Nat.le_refl _) ht (by omega) ⟨by decide, by decide⟩ hi rfl w h)
  have HK := Lib.hid h
  have HN := Lib.hid hn
  obtain ⟨R, hR⟩ : ∃ R, leastE l 0 0 = R := ⟨_, rfl⟩
  have HR := Lib.hid hR
  rw [hR]
  clear h hi hn hR
  go_enter Try.func15, Try.ntmps15
  go_wp2_with fail
  go_loopw [3, 4] (fun s3 s4 wr => ∃ (f : Nat) (m : Int), s3 = .int .i64 m ∧ s4 = .int .i64 f ∧ f ≤ n ∧ Hid (leastE l f m = R) ∧ Hid (Below w.heap.size w wr)) (fun _ s4 _ => n - (intOf s4).toNat)
  case atStart => exact ⟨0, 0, rfl, rfl, by omega, HR, Lib.hid (Below.refl _ _)⟩
  case round =>
    obtain ⟨f, m, rfl, rfl, fn, ER, KB⟩ := hrel
    by_cases lt : f < n
    · have lt' : (f : Int) < (n : Int) := by omega
      go_wp2_with fail
      refine (LG.out f fn _ (HK.out.later KB.out)).mono ?_
      rintro e w1 ⟨he, hb⟩
      have K1 := Lib.hid (bel_tr0 KB.out hb)
      clear hb
      have sg := segE_le l f (by have := HN.out; omega)
      have g1 : segE l f ≤ n := by have := HN.out; omega
      have g2 : f < segE l f := sg.2 (by have := HN.out; omega)
      clear sg
      obtain ⟨tt, htt⟩ : ∃ tt, segE l f = tt := ⟨_, rfl⟩
      cases hw : wid l f (segE l f) with
      | none =>
        rw [hw] at he
        have : R = none := by rw [← ER.out]; exact leastE_none l f m (by have := HN.out; omega) hw
        subst this
        obtain rfl : e = .panicked (gave 2) := he
        exact ⟨rfl, rfl, K1.out⟩
      | some x =>
        rw [hw] at he
        obtain rfl : e = .returned (.agg #[.int .i64 f, .int .i64 (segE l f : Nat), .int .i64 x, .int .i64 0]) := he
        obtain ⟨x0, x1⟩ := adds_len hw ⟨by decide, by decide⟩
        have ER2 : Hid (leastE l tt (if f = 0 ∨ m < x then x else m) = R) := Lib.hid (by rw [← ER.out, leastE_some l f m x (by have := HN.out; omega) hw, htt])
        rw [htt] at g1 g2 ⊢
        clear hw htt
        have K2 : Hid (Below w.heap.size w (w1.alloc (.cells #[.int .i64 f, .int .i64 tt, .int .i64 x, .int .i64 0] 33))) := Lib.hid (bel_tr0 K1.out (bel_newR _ _))
        by_cases z : f = 0
        · subst z
          have ER3 : Hid (leastE l tt x = R) := Lib.hid (by have := ER2.out; rwa [if_pos (.inl rfl)] at this)
          go_wp2_with fail
          go_roundw
          case rel => exact ⟨tt, x, rfl, rfl, g1, ER3, K2⟩
          case measure => simp [intOf]; omega
        · have zb : ((f : Int) == 0) = false := by simpa using z
          by_cases cm : m < x
          · have ER3 : Hid (leastE l tt x = R) := Lib.hid (by have := ER2.out; rwa [if_pos (.inr cm)] at this)
            go_wp2_with fail
            go_roundw
            case rel => exact ⟨tt, x, rfl, rfl, g1, ER3, K2⟩
            case measure => simp [intOf]; omega
          · have ER3 : Hid (leastE l tt m = R) := Lib.hid (by have := ER2.out; rwa [if_neg (by omega)] at this)
            go_wp2_with fail
            go_roundw
            case rel => exact ⟨tt, m, rfl, rfl, g1, ER3, K2⟩
            case measure => simp [intOf]; omega
    · obtain rfl : f = n := by omega
      have : R = some m := by rw [← ER.out]; exact leastE_out l f m (by have := HN.out; omega)
      subst this
      go_wp2_with fail
      go_returns
      exact ⟨rfl, KB.out⟩
theorem lmost_any (a : Option Addr) (n c : Nat) (l : List I4) (hl : n ≤ 900000) (hi : ∀ r ∈ l, InI r) (w : World) (h : KS IK w (.slice a n c) l) :
    Calls Try.prog 16 #[.slice a n c] w fun e w' => Told (wid l 0 n) e ∧ Below w.heap.size w w' := by
  have GR := Lib.hid (fun w h => lgrown_any a n c l 0 0 n 0 0 (wid l 0 n) (Nat.le_refl _) (Nat.zero_le _) (Nat.le_refl _) (by omega) ⟨by decide, by decide⟩ hi rfl w h)
  have HK := Lib.hid h
  obtain ⟨o, ho⟩ : ∃ o, wid l 0 n = o := ⟨_, rfl⟩
  rw [ho] at GR ⊢
  clear h hi ho
  go_enter Try.func16, Try.ntmps16
  go_wp2_with fail
  refine (GR.out _ HK.out).mono ?_
  rintro e w1 ⟨he, hb⟩
  have K1 := Lib.hid hb
  clear hb
  cases o with
  | none =>
    obtain rfl : e = .panicked (gave 2) := he
    exact ⟨rfl, rfl, K1.out⟩
  | some x =>
    obtain rfl : e = .returned (.int .i64 x) := he
    go_wp2_with fail
    go_returns
    exact ⟨rfl, K1.out⟩
def IntK : Rk Int := ⟨1, fun x => [.int .i64 x], fun _ => rfl, fun r u hu => by simp at hu; subst hu; rfl⟩
def NatK : Rk Nat := ⟨1, fun x => [.int .i64 x], fun _ => rfl, fun r u hu => by simp at hu; subst hu; rfl⟩
theorem ri_of_ks {w : World} {a : Option Addr} {n c : Nat} {xs : List Int} (h : KS IntK w (.slice a n c) xs) : Ri w a n c xs := by
  obtain ⟨a', n', c', e, hn, hc, hm, h5⟩ := h
  simp only [Value.slice.injEq] at e
  obtain ⟨rfl, rfl, rfl⟩ := e
  refine ⟨hn.symm, by omega, fun q => ?_⟩
  obtain ⟨g, o, rfl, hk⟩ := h5 q
  refine ⟨_, rfl, fun k lt => ?_⟩
  have := hk k _ (List.getElem?_eq_getElem (by omega)) 0 _ rfl
  rw [kadd_none', List.getD_eq_getElem?_getD, List.getElem?_eq_getElem (by omega)]
  simpa [IntK] using this
theorem slt_i64 : SlT 37 2 1 (.int .i64 0) 8 := ⟨Try.underlying37, by kernel_rfl, rfl, by decide, by decide⟩
theorem new_news {w : World} {cs : List Value} {t : TypeId} (j : Nat) (u : Value) (hk : cs[j]? = some u) : (w.alloc (.cells cs.toArray t)).cell? ((⟨w.heap.size, 0, none⟩ : Addr).add j) = some u := by
  rw [kadd_none', Nat.zero_add]
  have hh := heap_alloc_new w (.cells cs.toArray t)
  simp only [World.cell?, hh]
  simpa using hk
end Go.Proofs.Ytmelbgabiklojaa
/- The reference of lines: Ends, Fill, Least. -/
namespace Go.Proofs.Ytmelbgabiklojaa
open Go.RowKit Go.Proofs.Reg Go.Proofs.Big Lin
set_option linter.unusedVariables false
set_option linter.unusedSimpArgs false
set_option maxRecDepth 100000
theorem KS.at1 {w : World} {a : Option Addr} {n c : Nat} {l : List Nat} (h : KS NatK w (.slice a n c) l) {k x : Nat} (hk : l[k]? = some x) : ∃ g o, a = some ⟨g, o, none⟩ ∧ w.cell? ⟨g, o + k, none⟩ = some (.int .i64 x) := by
  obtain ⟨a', n', c', e, hn, hc, hm, h5⟩ := h
  simp only [Value.slice.injEq] at e
  obtain ⟨rfl, rfl, rfl⟩ := e
  have lt := (List.getElem?_eq_some_iff.1 hk).1
  obtain ⟨g, o, rfl, h6⟩ := h5 (by omega)
  have := h6 k x hk 0 _ rfl
  exact ⟨g, o, rfl, by simpa [NatK] using this⟩
end Go.Proofs.Ytmelbgabiklojaa
/- The reference of lines: Fill. -/
namespace Go.Proofs.Ytmelbgabiklojaa
open Go.RowKit Go.Proofs.Reg Go.Proofs.Big Lin
set_option linter.unusedVariables false
set_option linter.unusedSimpArgs false
set_option maxRecDepth 100000
/-- what the reference's Fill answers -/
def Fi13 (o : Option (List L4)) (u : Value) (er : Int) (w' : World) : Prop := match o with
  | some ls => er = 0 ∧ KS LK w' u ls
  | none => er = 2 ∧ u = .slice none 0 0
theorem ends_drop {l : List I4} {E : List Nat} {k f : Nat} (h : E.drop k = endsE l f) (lk : k < E.length) : f < l.length ∧ E[k]? = some (segE l f) ∧ E.drop (k + 1) = endsE l (segE l f) := by
  have hf : f < l.length := by
    rcases Nat.lt_or_ge f l.length with g | g
    · exact g
    · rw [endsE_out l f g] at h
      have := congrArg List.length h
      rw [List.length_drop] at this
      simp at this
      omega
  rw [endsE_cons l f hf, List.drop_eq_getElem_cons lk] at h
  injection h with h1 h2
  exact ⟨hf, by rw [List.getElem?_eq_getElem lk, h1], h2⟩
theorem ends_done {l : List I4} {E : List Nat} {k f : Nat} (h : E.drop k = endsE l f) (lk : E.length ≤ k) : l.length ≤ f := by
  rcases Nat.lt_or_ge f l.length with g | g
  · rw [List.drop_eq_nil_of_le lk, endsE_cons l f g] at h
    cases h
  · exact g
theorem bel_mono {α : Type} {K : Rk α} {e : TypeId} {w1 w2 w3 : World} {pe : Option Addr} {n ce : Nat} {rs : List α} (h : KM K e w1.heap.size w1 w2 pe n ce rs) (k : Below w2.heap.size w2 w3) : Below w1.heap.size w1 w3 := bel_tr0 h.bel k
theorem tab1_set {w : World} {b : Nat} {x0 x1 x2 x3 : Value} (h : Tab w [(b, [x0, x1, x2, x3])]) (i : Nat) (v : Value) : Tab (w.setCell ⟨b, i, none⟩ v) [(b, ([x0, x1, x2, x3] : List Value).set i v)] :=
  h.set 0 i v rfl (fun j b' vs' hj nj => by
    match j, nj, hj with
    | j + 1, _, hj => simp at hj)
end Go.Proofs.Ytmelbgabiklojaa
