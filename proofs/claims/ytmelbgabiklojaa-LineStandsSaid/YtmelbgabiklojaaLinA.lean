/- Package line: segments, widths. -/
import Derived.Test.YtmelbgabiklojaaLinQ
import Derived.Test.YtmelbgabiklojaaRec
import Derived.Test.YtmelbgabiklojaaApp
import Derived.Test.YtmelbgabiklojaaBut
import Derived.WalkKit
import Derived.WalkSpells
import Derived.WalkLawsBesides
import Derived.Handy
import Derived.Lib.Hide
import Derived.Deep.QuietTactic
import Derived.BigQuiet
import Derived.LoopTactic
import Derived.Outline
namespace Go.Proofs.Ytmelbgabiklojaa
open Go.RowKit Go.Proofs.Reg Go.Proofs.Big Lin
set_option linter.unusedVariables false
set_option linter.unusedSimpArgs false
set_option maxRecDepth 100000
/-- items in cells -/
def IK : Rk I4 := ⟨4, fun r => [.int .i64 r.1, .int .i64 r.2.1, .int .i64 r.2.2.1, .bool r.2.2.2], fun _ => rfl, fun r u hu => by simp at hu; rcases hu with rfl | rfl | rfl | rfl <;> rfl⟩
def In64 (x : Int) : Prop := -9223372036854775808 ≤ x ∧ x ≤ 9223372036854775807
def InI (r : I4) : Prop := In64 r.1 ∧ In64 r.2.1 ∧ In64 r.2.2.1
def Ln (x : Int) : Prop := -17592186044416 ≤ x ∧ x ≤ 17592186044416
theorem IK.at {w : World} {a : Option Addr} {n c : Nat} {l : List I4} (h : KS IK w (.slice a n c) l) {k : Nat} (lt : k < n) : ∃ g o x y z b, a = some ⟨g, o, none⟩ ∧ itm l k = (x, y, z, b) ∧ l[k]? = some (x, y, z, b) ∧ w.cell? ⟨g, o + k * 4, none⟩ = some (.int .i64 x) ∧ w.cell? ⟨g, o + k * 4 + 1, none⟩ = some (.int .i64 y) ∧ w.cell? ⟨g, o + k * 4 + 2, none⟩ = some (.int .i64 z) ∧ w.cell? ⟨g, o + k * 4 + 3, none⟩ = some (.bool b) := by
  obtain ⟨a', n', c', e, hn, hc, hm, h5⟩ := h
  simp only [Value.slice.injEq] at e
  obtain ⟨rfl, rfl, rfl⟩ := e
  obtain ⟨g, o, rfl, hk⟩ := h5 (by omega)
  obtain ⟨⟨x, y, z, b⟩, hr⟩ : ∃ r, l[k]? = some r := ⟨_, List.getElem?_eq_getElem (by omega)⟩
  have H := hk k _ hr
  exact ⟨g, o, x, y, z, b, rfl, itm_some hr, hr, H 0 _ rfl, H 1 _ rfl, H 2 _ rfl, H 3 _ rfl⟩
theorem KS.len {α : Type} {K : Rk α} {w : World} {a : Option Addr} {n c : Nat} {l : List α} (h : KS K w (.slice a n c) l) : n = l.length ∧ n ≤ c ∧ c ≤ 9223372036854775807 := by
  obtain ⟨a', n', c', e, hn, hc, hm, h5⟩ := h
  simp only [Value.slice.injEq] at e
  obtain ⟨rfl, rfl, rfl⟩ := e
  exact ⟨hn, hc, hm⟩
theorem inI_itm {l : List I4} (h : ∀ r ∈ l, InI r) {k : Nat} (lt : k < l.length) : InI (itm l k) := by
  rw [itm_some (List.getElem?_eq_getElem lt)]
  exact h _ (List.getElem_mem lt)
theorem lseg_any (a : Option Addr) (n c : Nat) (l : List I4) (i0 : Nat) (hi : i0 ≤ n) (hl : n ≤ 1000000) (w : World) (h : KS IK w (.slice a n c) l) :
    Calls Try.prog 49 #[.slice a n c, .int .i64 i0] w fun e w' => e = .returned (.int .i64 (segE l i0 : Nat)) ∧ w' = w := by
  obtain ⟨hn, hc, hm⟩ := h.len
  have H := Lib.hid h
  have HN := Lib.hid hn
  clear h hn
  go_enter Try.func49, Try.ntmps49
  go_wp2
  go_loop [5] (fun s5 => ∃ (i : Nat), s5 = .int .i64 i ∧ i ≤ n ∧ Hid (segE l i = segE l i0)) (fun s5 => n - (intOf s5).toNat)
  case atStart => exact ⟨i0, rfl, hi, Lib.hid rfl⟩
  case round =>
    obtain ⟨i, rfl, hin, HS⟩ := hrel
    by_cases lt : i < n
    · have lt' : (i : Int) < (n : Int) := by omega
      obtain ⟨g, o, x, y, z, b, rfl, hit, _, y0, y1, y2, y3⟩ := IK.at H.out lt
      have HI := Lib.hid hit
      have ix : ∀ wy : World, (Instr.indexAt 25 (.slice (some ⟨g, o, none⟩) n c) (.int .i64 i)).run Try.prog wy = .ok (.pointer (some ⟨g, o + i * 4, none⟩)) wy := fun wy => by
        have k0 : (0 : Int) ≤ (i : Int) := by omega
        simp [go_sem, k0, lt', Addr.add]
        try omega
      clear hit y0 y1 y2
      cases b
      · have HS2 : Hid (segE l (i + 1) = segE l i0) := Lib.hid (by rw [← HS.out]; exact (segE_next l i (by have := HN.out; omega) (by rw [HI.out])).symm)
        go_wp2
        go_round
        case rel => exact ⟨i + 1, by simp, by omega, HS2⟩
        case measure => simp [intOf]; omega
      · have HS2 : Hid (i + 1 = segE l i0) := Lib.hid (by rw [← HS.out]; exact (segE_brk l i (by have := HN.out; omega) (by rw [HI.out])).symm)
        go_wp2
        go_returns
        rw [← HS2.out]
        exact ⟨by simp, rfl⟩
    · have e : i = n := by omega
      subst e
      have HS2 : Hid (segE l i0 = i) := Lib.hid (by rw [← HS.out, segE_out l i (by have := HN.out; omega)]; exact HN.out.symm)
      go_wp2
      go_returns
      rw [HS2.out]
      exact ⟨rfl, rfl⟩
theorem addAll_adds : ∀ (s : Int) (xs : List Int), addAll s xs = adds s xs
  | s, [] => rfl
  | s, x :: xs => by rw [addAll, adds, addAll_adds]
theorem adds_yes {s x : Int} {xs : List Int} (h : Ln (s + x)) : adds s (x :: xs) = adds (s + x) xs := by
  rw [adds]
  exact if_pos h
theorem adds_no {s x : Int} {xs : List Int} (h : ¬ Ln (s + x)) : adds s (x :: xs) = none := by
  rw [adds]
  exact if_neg h
theorem ri_two (w : World) (x y : Int) : Ri (w.alloc (.cells #[.int .i64 x, .int .i64 y] 2)) (some ⟨w.heap.size, 0, none⟩) 2 2 [x, y] :=
  ⟨rfl, by decide, fun _ => ⟨_, rfl, fun k hk => by
    have : k = 0 ∨ k = 1 := by omega
    rcases this with rfl | rfl
    · simp [Addr.add, go_sem]
    · simp [Addr.add, go_sem]⟩⟩
theorem fadd2 (x y : Int) (hx : Ln x) (hy : In64 y) (w : World) :
    Calls Try.prog 41 #[.slice (some ⟨w.heap.size, 0, none⟩) 2 2] (w.alloc (.cells #[.int .i64 x, .int .i64 y] 2)) fun e w' => ((Ln (x + y) ∧ e = .returned (.int .i64 (x + y))) ∨ (¬ Ln (x + y) ∧ e = .panicked (gave 2))) ∧ w' = w.alloc (.cells #[.int .i64 x, .int .i64 y] 2) := by
  obtain ⟨x0, x1⟩ := hx
  obtain ⟨y0, y1⟩ := hy
  refine (fadd_any _ 2 2 [x, y] _ _ (ri_two w x y) (Lib.hid (fun u hu => by
    simp at hu
    rcases hu with rfl | rfl
    · omega
    · omega)) (Lib.hid rfl)).mono ?_
  rintro e w' ⟨he, rfl⟩
  refine ⟨?_, rfl⟩
  rw [addAll, if_pos (by omega), Int.zero_add, addAll] at he
  by_cases c : -17592186044416 ≤ x + y ∧ x + y ≤ 17592186044416
  · rw [if_pos c] at he
    exact .inl ⟨c, he⟩
  · rw [if_neg c] at he
    exact .inr ⟨c, he⟩
set_option maxHeartbeats 4000000 in
theorem lgrown_any (a : Option Addr) (n c : Nat) (l : List I4) (f t b : Nat) (W H : Int) (o : Option Int) (hf : f ≤ t) (ht : t ≤ b) (hb : b ≤ n) (hl : n ≤ 1000000) (hW : Ln W) (hi : ∀ r ∈ l, InI r) (ho : adds W (parts l f t b) = o) (w : World) (h : KS IK w (.slice a n c) l) :
    Calls Try.prog 37 #[.slice a n c, .agg #[.int .i64 f, .int .i64 t, .int .i64 W, .int .i64 H], .int .i64 b] w fun e w' => Told o e ∧ Below w.heap.size w w' := by
  obtain ⟨hn, hc, hm⟩ := h.len
  have KH := Lib.hid h
  have HN := Lib.hid hn
  have HI := Lib.hid hi
  have HO := Lib.hid ho
  have HW := Lib.hid hW
  clear h hn hi ho hW
  go_enter Try.func37, Try.ntmps37
  go_wp2_with fail
  have T0 : Hid (Tab (w.alloc (.cells #[.int .i64 f, .int .i64 t, .int .i64 W, .int .i64 H] 33)) [(w.heap.size, [.int .i64 f, .int .i64 t, .int .i64 W, .int .i64 H])]) := Lib.hid ((Tab.nil w).new _ _)
  have B0 : Hid (Below w.heap.size w (w.alloc (.cells #[.int .i64 f, .int .i64 t, .int .i64 W, .int .i64 H] 33))) := Lib.hid (bel_newR _ _)
  go_loopw [7, 8] (fun s7 s8 wr => ∃ (i : Nat) (x : Int), s8 = .int .i64 i ∧ s7 = .int .i64 x ∧ t ≤ i ∧ i ≤ b ∧ Hid (Ln x) ∧ Hid (adds x (parts l f i b) = o) ∧ Hid (Tab wr [(w.heap.size, [.int .i64 f, .int .i64 t, .int .i64 W, .int .i64 H])]) ∧ Hid (Below w.heap.size w wr)) (fun _ s8 _ => b - (intOf s8).toNat)
  case atStart => exact ⟨t, W, rfl, rfl, Nat.le_refl _, ht, HW, HO, T0, B0⟩
  case round =>
    clear T0 B0
    obtain ⟨i, x, rfl, rfl, ti, ib, LX, HA, HT, HB⟩ := hrel
    by_cases lt : i < b
    · have lt' : (i : Int) < (b : Int) := by omega
      have ltn : (i : Int) < (n : Int) := by omega
      obtain ⟨g, q, x1, x2, x3, bb, rfl, hit, _, y0, y1, y2, y3⟩ := IK.at KH.out (show i < n by omega)
      have IR : Hid (In64 x1) := Lib.hid (by have := inI_itm HI.out (show i < l.length by have := HN.out; omega); rw [hit] at this; exact this.1)
      have ix : ∀ wy : World, (Instr.indexAt 25 (.slice (some ⟨g, q, none⟩) n c) (.int .i64 i)).run Try.prog wy = .ok (.pointer (some ⟨g, q + i * 4, none⟩)) wy := fun wy => by
        have k0 : (0 : Int) ≤ (i : Int) := by omega
        simp [go_sem, k0, ltn, Addr.add]
        try omega
      have CL : Hid (∀ wy, Below w.heap.size w wy → wy.cell? ⟨g, q + i * 4, none⟩ = some (.int .i64 x1)) := Lib.hid (fun wy hb => kcell_on hb y0)
      have HP := HA.out
      rw [parts_cons l f i b lt] at HP
      by_cases fi : f < i
      · have fi' : (f : Int) < (i : Int) := by omega
        obtain ⟨g2, q2, z1, z2, z3, b2, e2, hit2, _, u0, u1, u2, u3⟩ := IK.at KH.out (show i - 1 < n by omega)
        simp only [Option.some.injEq, Addr.mk.injEq] at e2
        obtain ⟨rfl, rfl, _⟩ := e2
        have IS : Hid (In64 z2) := Lib.hid (by have := inI_itm HI.out (show i - 1 < l.length by have := HN.out; omega); rw [hit2] at this; exact this.2.1)
        have CL2 : Hid (∀ wy, Below w.heap.size w wy → wy.cell? ⟨g, q + (i - 1) * 4 + 1, none⟩ = some (.int .i64 z2)) := Lib.hid (fun wy hb => kcell_on hb u1)
        have ix2 : ∀ wy : World, (Instr.indexAt 25 (.slice (some ⟨g, q, none⟩) n c) (.int .i64 ((i : Int) - 1))).run Try.prog wy = .ok (.pointer (some ⟨g, q + (i - 1) * 4, none⟩)) wy := fun wy => by
          have k0 : (1 : Int) ≤ (i : Int) := by omega
          have k1 : (i : Int) - 1 < n := by omega
          have k2 : ((i : Int) - 1).toNat = i - 1 := by omega
          simp [go_sem, k0, k1, k2, Addr.add]
          try omega
        rw [pr, if_pos fi, hit, hit2] at HP
        have HP2 := Lib.hid HP
        have c0 := CL2.out _ HB.out
        have c1 := HT.out.cell 0 0 rfl rfl
        clear HP hit hit2 y0 y1 y2 y3 u0 u1 u2 u3 HA fi
        go_wp2_with fail
        refine (fadd2 x z2 LX.out IS.out _).mono ?_
        rintro e w1 ⟨he, hw⟩
        have B1 : Hid (Below w.heap.size w w1) := Lib.hid (by rw [hw]; exact bel_tr0 HB.out (bel_newR _ _))
        have T1 : Hid (Tab w1 [(w.heap.size, [.int .i64 f, .int .i64 t, .int .i64 W, .int .i64 H])]) := Lib.hid (by rw [hw]; exact HT.out.alloc _)
        clear HB HT c0 c1 hw
        rcases he with ⟨L1, rfl⟩ | ⟨L1, rfl⟩
        · have HL1 := Lib.hid L1
          clear L1
          have c0 := CL.out _ B1.out
          go_wp2_with fail
          refine (fadd2 (x + z2) x1 HL1.out IR.out _).mono ?_
          rintro e w2 ⟨he, hw⟩
          have B2 : Hid (Below w.heap.size w w2) := Lib.hid (by rw [hw]; exact bel_tr0 B1.out (bel_newR _ _))
          have T2 : Hid (Tab w2 [(w.heap.size, [.int .i64 f, .int .i64 t, .int .i64 W, .int .i64 H])]) := Lib.hid (by rw [hw]; exact T1.out.alloc _)
          clear B1 T1 c0 hw
          rcases he with ⟨L2, rfl⟩ | ⟨L2, rfl⟩
          · have HL2 := Lib.hid L2
            have HA2 : Hid (adds (x + z2 + x1) (parts l f (i + 1) b) = o) := Lib.hid (by
              have := HP2.out
              rw [List.cons_append, List.cons_append, adds_yes HL1.out, adds_yes L2] at this
              exact this)
            clear L2
            go_wp2_with fail
            go_roundw
            case rel => exact ⟨i + 1, _, by simp, rfl, by omega, by omega, HL2, HA2, T2, B2⟩
            case measure => simp [intOf]; omega
          · have HO2 : o = none := by
              have := HP2.out
              rw [List.cons_append, List.cons_append, adds_yes HL1.out, adds_no L2] at this
              exact this.symm
            subst HO2
            exact ⟨rfl, rfl, B2.out⟩
        · have HO2 : o = none := by
            have := HP2.out
            rw [List.cons_append, adds_no L1] at this
            exact this.symm
          subst HO2
          exact ⟨rfl, rfl, B1.out⟩
      · have fi' : ¬ (f : Int) < (i : Int) := by omega
        rw [pr, if_neg fi, hit] at HP
        have HP2 := Lib.hid HP
        have c0 := CL.out _ HB.out
        have c1 := HT.out.cell 0 0 rfl rfl
        clear HP hit y0 y1 y2 y3 HA fi
        go_wp2_with fail
        refine (fadd2 x x1 LX.out IR.out _).mono ?_
        rintro e w1 ⟨he, hw⟩
        have B1 : Hid (Below w.heap.size w w1) := Lib.hid (by rw [hw]; exact bel_tr0 HB.out (bel_newR _ _))
        have T1 : Hid (Tab w1 [(w.heap.size, [.int .i64 f, .int .i64 t, .int .i64 W, .int .i64 H])]) := Lib.hid (by rw [hw]; exact HT.out.alloc _)
        clear HB HT c0 c1 hw
        rcases he with ⟨L1, rfl⟩ | ⟨L1, rfl⟩
        · have HL1 := Lib.hid L1
          have HA2 : Hid (adds (x + x1) (parts l f (i + 1) b) = o) := Lib.hid (by
            have := HP2.out
            rw [List.cons_append, adds_yes L1] at this
            exact this)
          clear L1
          go_wp2_with fail
          go_roundw
          case rel => exact ⟨i + 1, _, by simp, rfl, by omega, by omega, HL1, HA2, T1, B1⟩
          case measure => simp [intOf]; omega
        · have HO2 : o = none := by
            have := HP2.out
            rw [List.cons_append, adds_no L1] at this
            exact this.symm
          subst HO2
          exact ⟨rfl, rfl, B1.out⟩
    · have e : i = b := by omega
      subst e
      have HO2 : Hid (o = some x) := Lib.hid (by rw [← HA.out, parts_nil l f i i (Nat.le_refl _), adds])
      go_wp2_with fail
      go_returns
      rw [HO2.out]
      exact ⟨rfl, HB.out⟩
end Go.Proofs.Ytmelbgabiklojaa
