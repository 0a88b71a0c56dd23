/- Package region: a band, moved. -/
import Derived.Test.YtjemnjboopabpaaGop
import Derived.Test.YtjemnjboopabpaaAreaQ
import Derived.WalkKit
import Derived.WalkSpells
import Derived.WalkLawsBesides
import Derived.Handy
import Derived.Lib.Hide
import Derived.LoopTactic
import Derived.RegionTactic
import Derived.BigRegion
import Derived.Outline
namespace Go.Proofs.Ytjemnjboopabpaa
open Go.RowKit Go.Proofs.Reg Go.Proofs.Big Go.Proofs.Bands
set_option linter.unusedVariables false
set_option linter.unusedSimpArgs false
set_option maxRecDepth 100000
theorem But.grown {bs : List Nat} {a b c : World} {row : Option Nat} (h : But bs a b) (k : b.grownBy c row) (hr : ∀ j, row = some j → a.heap.size ≤ j) : But bs a c :=
  ⟨k.os.trans h.os, k.tape.trans h.tape, k.output.trans h.output, Nat.le_trans h.size k.size, fun i hi hn => (k.block i (Nat.lt_of_lt_of_le hi h.size) (fun e => by have := hr i e.symm; omega)).trans (h.block i hi hn)⟩
theorem Tab.grown1 {w w' : World} {b : Nat} {vs : List Value} {row : Option Nat} (h : Tab w [(b, vs)]) (k : w.grownBy w' row) (hr : row ≠ some b) : Tab w' [(b, vs)] := fun j b' vs' hj i v hi => by
  have hb : b' = b := by
    match j, hj with
    | 0, hj => simp at hj; exact hj.1.symm
    | j + 1, hj => simp at hj
  subst hb
  obtain ⟨c, z⟩ := h j b' vs' hj i v hi
  have e := k.block b' (World.block_lt_of_cell? w _ c) (fun q => hr q.symm)
  exact ⟨by rw [World.cell?_of_block e]; exact c, by rw [World.frozen?_of_block e]; exact z⟩
theorem Tab.first {w : World} {r : Nat × List Value} {l : List (Nat × List Value)} (h : Tab w (r :: l)) : Tab w [r] := fun j b vs hj i v hi => by
  match j, hj with
  | 0, hj => exact h 0 b vs (by simpa using hj) i v hi
  | j + 1, hj => simp at hj
theorem grown_set (w : World) (p : Addr) (u : Value) : w.grownBy (w.setCell p u) (some p.block) :=
  ⟨rfl, rfl, rfl, by simp [World.setCell], fun k hk hne => Below.heap_setCell _ _ _ _ (fun e => hne (by rw [e]))⟩
theorem own_set {w : World} {base size n : Nat} {e : TypeId} {v : Value} {xs : List Value} (h : w.ownsRow base e size v n xs) {p : Addr} (hp : v.ownBlock ≠ some p.block) (u : Value) : (w.setCell p u).ownsRow base e size v n xs := h.kept (grown_set w p u) (.inr hp)
theorem nrm_emB {a b c d P Q R S : Int} (h : Nrm a b c d P Q R S) : (emB P Q R S = false → limB a < limB c ∧ limB b < limB d ∧ P = limB a ∧ Q = limB b ∧ R = limB c ∧ S = limB d) ∧ (emB P Q R S = true → ¬ (limB a < limB c ∧ limB b < limB d)) := by
  have l : ∀ n, lim n = limB n := fun n => rfl
  unfold Nrm at h
  rw [l, l, l, l] at h
  have e := emB_iff (P, Q, R, S)
  dsimp only at e
  rcases h with ⟨h1, h2, rfl, rfl, rfl, rfl⟩ | ⟨h, rfl, rfl, rfl, rfl⟩
  · refine ⟨fun _ => ⟨h1, h2, rfl, rfl, rfl, rfl⟩, fun z => ?_⟩
    rw [z] at e
    have := of_decide_eq_true e.symm
    simp only [Prod.mk.injEq] at this
    omega
  · refine ⟨fun z => (by rw [show emB 0 0 0 0 = true from rfl] at z; cases z), fun _ => by omega⟩
/-- what a moved band is -/
def MvdR (w : World) (t b nx ny : Int) (es : List Int) (e : Ending) (w' : World) : Prop :=
  ∃ T B v, e = .returned (.agg #[.int .i64 T, .int .i64 B, v]) ∧ EV w' v (mvB nx ny ⟨t, b, es⟩).es ∧ ((mvB nx ny ⟨t, b, es⟩).es ≠ [] → T = limB (t + ny) ∧ B = limB (b + ny)) ∧ Below w.heap.size w w'
set_option maxHeartbeats 2000000 in
theorem moved_any (t b dx dy : Int) (ev : Value) (es : List Int) (w : World) (he : EV w ev es) (ok : BdOk ⟨t, b, es⟩) (ir : InR [⟨t, b, es⟩]) (fw : es.length ≤ 1000) (x0 : I64 dx) (y0 : I64 dy) :
    Calls Try.prog 44 #[.agg #[.int .i64 t, .int .i64 b, ev], .int .i64 dx, .int .i64 dy] w (MvdR w t b (nr dx) (nr dy) es) := by
  have HE := Lib.hid he
  have OK := Lib.hid ok
  have FI : Hid (∀ r ∈ runs t b es, Fil r) := Lib.hid (by
    have := ir ⟨t, b, es⟩ (by simp)
    exact runs_fil this.1.1 ok.tb this.1.2 ok.asc this.2)
  have X0 := Lib.hid x0
  have Y0 := Lib.hid y0
  have XX : -9223372036854775808 ≤ dx ∧ dx ≤ 9223372036854775807 := x0
  have YY : -9223372036854775808 ≤ dy ∧ dy ≤ 9223372036854775807 := y0
  obtain ⟨xx0, xx1⟩ := XX
  obtain ⟨yy0, yy1⟩ := YY
  obtain ⟨ea, en, ec, rfl, _⟩ : ∃ ea en ec, ev = .slice ea en ec ∧ True := by
    obtain ⟨a, n, c, e, _⟩ := he
    exact ⟨a, n, c, e, trivial⟩
  obtain ⟨i0, hi, hz0, hz1, hz2⟩ := int_parts
  clear he ok ir x0 y0
  go_enter Try.func44, Try.ntmps44
  go_wp2_with fail
  refine (grects_any t b _ es _ (HE.out.later (by go_grown)) OK.out.ev (by omega) OK.out.ne).mono ?_
  rintro _ w1 ⟨p, c2, rfl, ho, hb⟩
  rw [rcs_runs] at ho
  have B1 := Lib.hid (show Below w.heap.size w w1 from bel_tr0 (by go_grown) hb)
  have RSv := Lib.hid (RS.of_owns ho)
  have GF : Hid (∀ g o, p = some ⟨g, o, none⟩ → w.heap.size + 4 ≤ g) := Lib.hid (fun g o e => by have := (ho.lt g (by rw [e]; rfl)).1; simpa using this)
  obtain ⟨m, hm⟩ : ∃ m, es.length / 2 = m := ⟨_, rfl⟩
  have ML : Hid (m = (runs t b es).length) := Lib.hid (by rw [runs_len, hm])
  rw [hm]
  have mb : m ≤ 500 := by omega
  have T1 := Lib.hid (((((Tab.nil (w.alloc (.cells #[.int .i64 t, .int .i64 b, .slice ea en ec] 86))).new' (b := w.heap.size + 1) [.int .i64 0, .int .i64 0, .slice none 0 0] 86 (by simp)).new' (b := w.heap.size + 2) [.int .i64 0, .int .i64 0, .slice none 0 0] 86 (by simp))).later hb)
  have HK : Hid (w1.heap[w.heap.size + 1]? = some (.cells #[.int .i64 0, .int .i64 0, .slice none 0 0] 86 (0, 0))) := Lib.hid (by
    rw [hb.block (w.heap.size + 1) (by simp), heap_alloc_old _ _ (by simp)]
    have e : w.heap.size + 1 = (w.alloc (Obj.cells #[.int .i64 t, .int .i64 b, .slice ea en ec] 86)).heap.size := by simp
    rw [e]
    exact heap_alloc_new _ _)
  clear ho hb hm
  go_wp2_with fail
  go_loopw [13] (fun s13 wr => ∃ (j n3 ce : Nat) (T B : Int) (pe : Option Addr) (E : List Int), s13 = .int .i64 j ∧ j ≤ m ∧ Hid (E = mvR (nr dx) (limB (t + nr dy) < limB (b + nr dy)) ((runs t b es).take j)) ∧ Hid (E ≠ [] → T = limB (t + nr dy) ∧ B = limB (b + nr dy)) ∧ Hid (Tab wr [(w.heap.size + 2, [.int .i64 T, .int .i64 B, .slice pe n3 ce])]) ∧ Hid (wr.ownsRow w1.heap.size 3 1 (.slice pe n3 ce) n3 (E.map (Value.int .i64))) ∧ Hid (But [w.heap.size + 2] w1 wr)) (fun s13 _ => m - (intOf s13).toNat)
  case atStart => exact ⟨0, 0, 0, 0, 0, none, [], rfl, by omega, Lib.hid rfl, Lib.hid (fun h => absurd rfl h), Lib.hid (Tab.first T1.out), Lib.hid (World.ownsRow_nil _ _ _ _), Lib.hid (But.refl _ _)⟩
  case round =>
    obtain ⟨j, n3, ce, T, B, pe, E, rfl, jm, HX, HTB, HT, HO, KB⟩ := hrel
    have lt2 : w.heap.size + 2 < w1.heap.size := T1.out.lt 0 rfl
    by_cases lt : j < m
    · have lt' : (j : Int) < (m : Int) := by omega
      obtain ⟨a0, n0, c0', e0, hn0, hb0, hc0⟩ := RSv.out.cells
      cases e0
      obtain ⟨g, o, rfl, hcl⟩ := hc0 (by rw [hn0, ← ML.out]; omega)
      have hg := GF.out g o rfl
      obtain ⟨r, hr⟩ : ∃ r, (runs t b es)[j]? = some r := ⟨_, List.getElem?_eq_getElem (by have := ML.out; omega)⟩
      obtain ⟨x0, x1, x2, x3⟩ := hcl j r hr
      have mem := List.mem_of_getElem? hr
      have f := FI.out r mem
      obtain ⟨rt, rb⟩ := runs_mem mem
      have HM := Lib.hid (mvR_take (nr dx) (limB (t + nr dy) < limB (b + nr dy)) hr)
      obtain ⟨i0', i1', i2', i3'⟩ := fil_i64 f
      have FN := fil_nrm f
      obtain ⟨ra, rt', rc, rb'⟩ := r
      dsimp only at x0 x1 x2 x3 rt rb HM i0' i1' i2' i3' FN
      subst rt rb
      have d0 := KB.out.cell (by simp; omega) x0
      have d1 := KB.out.cell (by simp; omega) x1
      have d2 := KB.out.cell (by simp; omega) x2
      have d3 := KB.out.cell (by simp; omega) x3
      have hs1 := KB.out.size
      obtain ⟨P, Q, R, S, hN⟩ : ∃ P Q R S, Nrm (ra + nr dx) (rt' + nr dy) (rc + nr dx) (rb' + nr dy) P Q R S := nrm_ex _ _ _ _
      have XM := Lib.hid (xmove_any ra rt' rc rb' _ _ _ _ dx dy i0' i1' i2' i3' FN X0.out Y0.out P Q R S hN)
      have NN := hN.rgt.nrm
      have RI := hN.rgt.i64
      have XE := Lib.hid (xempty_any P Q R S _ _ _ _ RI.1 RI.2.1 RI.2.2.1 RI.2.2.2 NN)
      have HN := Lib.hid hN
      have HJ : j ≤ 1000 := by omega
      clear x0 x1 x2 x3 hcl hc0 hr mem f FN i0' i1' i2' i3' hN NN
      unfold rv at XM XE
      go_wp2_with fail
      refine (XM.out _).mono ?_
      rintro _ w2 ⟨rfl, hb⟩
      have T2 := Lib.hid ((HT.out.new [.int .i64 ra, .int .i64 rt', .int .i64 rc, .int .i64 rb'] 40).later hb)
      have KB2 := Lib.hid ((KB.out.alloc (.cells #[.int .i64 ra, .int .i64 rt', .int .i64 rc, .int .i64 rb'] 40)).later hb)
      have HO2 := Lib.hid (owns_later (HO.out.alloc (.cells #[.int .i64 ra, .int .i64 rt', .int .i64 rc, .int .i64 rb'] 40)) hb)
      have OL := HO.out.lt
      clear hb d0 d1 d2 d3
      have c0 := T2.out.cell 0 0 rfl rfl
      have c1 := T2.out.cell 0 1 rfl rfl
      have c2 := T2.out.cell 0 2 rfl rfl
      have c3 := T2.out.cell 0 3 rfl rfl
      have f0 := T2.out.froz 0 0 rfl rfl
      have f1 := T2.out.froz 0 1 rfl rfl
      have f2 := T2.out.froz 0 2 rfl rfl
      have f3 := T2.out.froz 0 3 rfl rfl
      have ND : Hid (([wr.heap.size, w.heap.size + 2] : List Nat).Nodup) := Lib.hid (by simp; omega)
      have NO : Hid ((Value.slice pe n3 ce).ownBlock ≠ some wr.heap.size) := Lib.hid (fun e => by have := (OL _ e).2; omega)
      have NP : Hid ((Value.slice pe n3 ce).ownBlock ≠ some (w.heap.size + 2)) := Lib.hid (fun e => by have := (OL _ e).1; omega)
      have T3 := Lib.hid ((((T2.out.set1 0 0 (.int .i64 P) rfl ND.out).set1 0 1 (.int .i64 Q) rfl ND.out).set1 0 2 (.int .i64 R) rfl ND.out).set1 0 3 (.int .i64 S) rfl ND.out)
      have KB3 := Lib.hid ((((KB2.out.setCell (p := ⟨wr.heap.size, 0, none⟩) (.inr hs1) (.int .i64 P)).setCell (p := ⟨wr.heap.size, 1, none⟩) (.inr hs1) (.int .i64 Q)).setCell (p := ⟨wr.heap.size, 2, none⟩) (.inr hs1) (.int .i64 R)).setCell (p := ⟨wr.heap.size, 3, none⟩) (.inr hs1) (.int .i64 S))
      have HO3 := Lib.hid (own_set (own_set (own_set (own_set HO2.out (p := ⟨wr.heap.size, 0, none⟩) NO.out (.int .i64 P)) (p := ⟨wr.heap.size, 1, none⟩) NO.out (.int .i64 Q)) (p := ⟨wr.heap.size, 2, none⟩) NO.out (.int .i64 R)) (p := ⟨wr.heap.size, 3, none⟩) NO.out (.int .i64 S))
      obtain ⟨eb, hE⟩ : ∃ eb, emB P Q R S = eb := ⟨_, rfl⟩
      have HB := nrm_emB HN.out
      rw [hE] at XE HB
      have HBB := Lib.hid HB
      clear T2 KB2 HO2 hE HB OL
      go_wp2_with fail
      refine (XE.out _).mono ?_
      rintro _ w3 ⟨rfl, hb⟩
      have T4 := Lib.hid (T3.out.later hb)
      have KB4 := Lib.hid (KB3.out.later hb)
      have HO4 := Lib.hid (owns_later HO3.out hb)
      clear hb c0 c1 c2 c3 f0 f1 f2 f3 T3 KB3 HO3
      cases eb
      · obtain ⟨l1, l2, e1, e2, e3, e4⟩ := HBB.out.1 rfl
        have EP := Lib.hid e1
        have EQ := Lib.hid e2
        have ER := Lib.hid e3
        have ES := Lib.hid e4
        have L1 := Lib.hid l1
        have L2 := Lib.hid l2
        clear l1 l2 e1 e2 e3 e4
        have c0 := T4.out.cell 0 0 rfl rfl
        have c1 := T4.out.cell 0 1 rfl rfl
        have c2 := T4.out.cell 0 2 rfl rfl
        have c3 := T4.out.cell 0 3 rfl rfl
        have g0 := T4.out.cell 1 0 rfl rfl
        have g1 := T4.out.cell 1 1 rfl rfl
        have g2 := T4.out.cell 1 2 rfl rfl
        have gf0 := T4.out.froz 1 0 rfl rfl
        have gf1 := T4.out.froz 1 1 rfl rfl
        have gf2 := T4.out.froz 1 2 rfl rfl
        have ne1 : ¬ w.heap.size + 2 = wr.heap.size := by omega
        have ne2 : ¬ wr.heap.size = w.heap.size + 2 := by omega
        go_wp2_with fail
        go_region
        have ND2 : Hid (([w.heap.size + 2] : List Nat).Nodup) := Lib.hid (by simp)
        have TT := Lib.hid (((show Tab w3 [(w.heap.size + 2, [.int .i64 T, .int .i64 B, .slice pe n3 ce])] from fun j b vs hj i v hi => by
          match j, hj with
          | 0, hj => exact T4.out 1 b vs (by simpa using hj) i v hi
          | j + 1, hj => simp at hj).set1 0 0 (.int .i64 Q) rfl ND2.out).set1 0 1 (.int .i64 S) rfl ND2.out)
        have KB5 := Lib.hid (((KB4.out.setCell (p := ⟨w.heap.size + 2, 0, none⟩) (.inl (by simp)) (.int .i64 Q)).setCell (p := ⟨w.heap.size + 2, 1, none⟩) (.inl (by simp)) (.int .i64 S)).drew.alloc (.cells #[.int .i64 P, .int .i64 R] 3))
        have HO5 := Lib.hid (((own_set (own_set HO4.out (p := ⟨w.heap.size + 2, 0, none⟩) NP.out (.int .i64 Q)) (p := ⟨w.heap.size + 2, 1, none⟩) NP.out (.int .i64 S)).drew).alloc (.cells #[.int .i64 P, .int .i64 R] 3))
        have EN : Hid (n3 = E.length) := Lib.hid (by have := HO4.out.1; simp at this; omega)
        have EL : E.length ≤ 2000 := by
          rw [HX.out]
          have := mvR_len (nr dx) (limB (rt' + nr dy) < limB (rb' + nr dy)) ((runs rt' rb' es).take j)
          rw [List.length_take] at this
          omega
        have nl : n3 ≤ 2000 := by rw [EN.out]; exact EL
        have hs3 := KB4.out.size
        clear T4 KB4 HO4 EL
        go_wp2_with (at_builtin; go_loud (refine wpList_append_own _ rfl _ _ 69 rfl w1.heap.size 3 i0 (.int .i64 0) 1 8 Try.underlying69 hi hz0 hz1 hz2 rfl (by decide) _ _ _ rfl HO5.out ⟨_, 0, none⟩ 2 2 [.int .i64 P, .int .i64 R] rfl rfl ?c1 ?c2 ?c3 ?c4 ?c5 ?_))
        case c1 =>
          intro x u h
          match x, h with
          | 0, h => simp at h; subst h; simp [go_sem, Addr.add]
          | 1, h => simp at h; subst h; simp [go_sem, Addr.add]
          | x + 2, h => simp at h
        case c2 => intro u hu; simp at hu; rcases hu with rfl | rfl <;> rfl
        case c3 => unfold maxLen; omega
        case c4 => omega
        case c5 => simp; omega
        intro v1 w4 hown1 hgrow _
        have hown3 : w4.ownsRow w1.heap.size 3 1 v1 (n3 + 2) ((E ++ [P, R]).map (Value.int .i64)) := by
          simpa using hown1
        obtain ⟨a1, cap1, rfl⟩ : ∃ a1 cap1, v1 = .slice a1 (n3 + 2) cap1 := by
          rcases Joins.ownsRow_forms hown3 with ⟨rfl, h⟩ | ⟨g, cap, rfl⟩
          · omega
          · exact ⟨_, cap, rfl⟩
        have KB6 := Lib.hid (But.grown KB5.out hgrow (fun k hk => (HO5.out.lt k hk).1))
        have T6 := Lib.hid (Tab.grown1 ((TT.out.later ((Below.refl _ _).drew)).alloc (.cells #[.int .i64 P, .int .i64 R] 3)) hgrow NP.out)
        have HO6 := Lib.hid hown3
        have NQ : Hid ((Value.slice a1 (n3 + 2) cap1).ownBlock ≠ some (w.heap.size + 2)) := Lib.hid (fun e => by have := (HO6.out.lt _ e).1; omega)
        have HX1 : Hid (E ++ [P, R] = mvR (nr dx) (limB (rt' + nr dy) < limB (rb' + nr dy)) ((runs rt' rb' es).take (j + 1))) := Lib.hid (by
          rw [HM.out, if_pos ⟨L1.out, L2.out⟩, ← HX.out, EP.out, ER.out])
        have HTB1 : Hid (E ++ [P, R] ≠ [] → Q = limB (rt' + nr dy) ∧ S = limB (rb' + nr dy)) := Lib.hid (fun _ => ⟨EQ.out, ES.out⟩)
        have T7 := Lib.hid (T6.out.set1 0 2 (.slice a1 (n3 + 2) cap1) rfl ND2.out)
        have KB7 := Lib.hid (KB6.out.setCell (p := ⟨w.heap.size + 2, 2, none⟩) (.inl (by simp)) (.slice a1 (n3 + 2) cap1))
        have HO7 := Lib.hid (own_set HO6.out (p := ⟨w.heap.size + 2, 2, none⟩) NQ.out (.slice a1 (n3 + 2) cap1))
        clear hown3 hown1 hgrow c0 c1 c2 c3 g0 g1 g2 gf0 gf1 gf2
        have g0 := T6.out.cell 0 0 rfl rfl
        have g1 := T6.out.cell 0 1 rfl rfl
        have g2 := T6.out.cell 0 2 rfl rfl
        have gf2 := T6.out.froz 0 2 rfl rfl
        go_wp2_with fail
        go_roundw
        case rel => exact ⟨j + 1, n3 + 2, cap1, Q, S, a1, E ++ [P, R], by go_num, by omega, HX1, HTB1, T7, HO7, KB7⟩
        case measure => simp [intOf]; omega
      · have HX1 : Hid (E = mvR (nr dx) (limB (rt' + nr dy) < limB (rb' + nr dy)) ((runs rt' rb' es).take (j + 1))) := Lib.hid (by
          rw [HM.out, if_neg (HBB.out.2 rfl), List.append_nil]
          exact HX.out)
        have HT1 : Hid (Tab w3 [(w.heap.size + 2, [.int .i64 T, .int .i64 B, .slice pe n3 ce])]) := Lib.hid (fun j b vs hj i v hi => by
          match j, hj with
          | 0, hj => exact T4.out 1 b vs (by simpa using hj) i v hi
          | j + 1, hj => simp at hj)
        go_wp2_with fail
        go_roundw
        case rel => exact ⟨j + 1, n3, ce, T, B, pe, E, by go_num, by omega, HX1, HTB, HT1, HO4, KB4⟩
        case measure => simp [intOf]; omega
    · obtain rfl : j = m := by omega
      have nlt : ¬ (j : Int) < (j : Int) := by omega
      have EE : E = (mvB (nr dx) (nr dy) ⟨t, b, es⟩).es := by
        rw [HX.out, ML.out, List.take_length, mvR_runs]
        rfl
      have HEE := Lib.hid EE
      clear EE
      have EVv := Lib.hid (EV.of_owns HO.out (by have := HO.out.1; have := mvR_len (nr dx) (limB (t + nr dy) < limB (b + nr dy)) ((runs t b es).take j); rw [← HX.out, List.length_take] at this; simp at *; omega))
      have HKr : Hid (wr.heap[w.heap.size + 1]? = some (.cells #[.int .i64 0, .int .i64 0, .slice none 0 0] 86 (0, 0))) := Lib.hid ((KB.out.block _ (by omega) (by simp)).trans HK.out)
      have FB := Lib.hid (But.below B1.out KB.out (by omega) (fun i hi => by simp at hi; omega))
      have EF : Hid (∀ u1 u2 u3, EV (((wr.setCell ⟨w.heap.size + 1, 0, none⟩ u1).setCell ⟨w.heap.size + 1, 1, none⟩ u2).setCell ⟨w.heap.size + 1, 2, none⟩ u3) (.slice pe n3 ce) (mvB (nr dx) (nr dy) ⟨t, b, es⟩).es) := Lib.hid (fun u1 u2 u3 => by
        rw [← HEE.out]
        refine EVv.out.kept fun g cs fz hg => ?_
        have ne : g ≠ w.heap.size + 1 := by
          rintro rfl
          rw [HKr.out] at hg
          simp only [Option.some.injEq, Obj.cells.injEq] at hg
          exact absurd hg.2.1 band_ne_int
        rw [Below.heap_setCell _ _ _ _ ne, Below.heap_setCell _ _ _ _ ne, Below.heap_setCell _ _ _ _ ne])
      have TB : Hid ((mvB (nr dx) (nr dy) ⟨t, b, es⟩).es ≠ [] → T = limB (t + nr dy) ∧ B = limB (b + nr dy)) := Lib.hid (by rw [← HEE.out]; exact HTB.out)
      have c0 := HT.out.cell 0 0 rfl rfl
      have c1 := HT.out.cell 0 1 rfl rfl
      have c2 := HT.out.cell 0 2 rfl rfl
      have e0 := KB.out.cell (by simp) (T1.out.cell 1 0 rfl rfl)
      have e1 := KB.out.cell (by simp) (T1.out.cell 1 1 rfl rfl)
      have e2 := KB.out.cell (by simp) (T1.out.cell 1 2 rfl rfl)
      have f0 : wr.frozen? ⟨w.heap.size + 1, 0, none⟩ = false := by rw [KB.out.frozen (by simp) (by show w.heap.size + 1 < w1.heap.size; omega)]; exact T1.out.froz 1 0 rfl rfl
      have f1 : wr.frozen? ⟨w.heap.size + 1, 1, none⟩ = false := by rw [KB.out.frozen (by simp) (by show w.heap.size + 1 < w1.heap.size; omega)]; exact T1.out.froz 1 1 rfl rfl
      have f2 : wr.frozen? ⟨w.heap.size + 1, 2, none⟩ = false := by rw [KB.out.frozen (by simp) (by show w.heap.size + 1 < w1.heap.size; omega)]; exact T1.out.froz 1 2 rfl rfl
      have lz := World.block_lt_of_cell? wr _ e0
      go_wp2_with fail
      refine bodyPost_ret (v := .agg #[.int .i64 T, .int .i64 B, .slice pe n3 ce]) (by simp [results, Try.results44, go_sem, e0, e1, e2]) rfl ?_
      exact ⟨T, B, _, rfl, EF.out _ _ _, TB.out, ((FB.out.setCell (by simp) _).setCell (by simp) _).setCell (by simp) _⟩
end Go.Proofs.Ytjemnjboopabpaa
/- Package region: a region, moved. -/
namespace Go.Proofs.Ytjemnjboopabpaa
open Go.RowKit Go.Proofs.Reg Go.Proofs.Big Go.Proofs.Bands
set_option linter.unusedVariables false
set_option linter.unusedSimpArgs false
set_option maxRecDepth 100000
def MvR (w : World) (l : List Bd) (dx dy : Int) (e : Ending) (w' : World) : Prop := ∃ v m, e = .returned v ∧ Rg w' v m ∧ (∀ x y, hasP m x y = (inG x y && hasP l (x - nr dx) (y - nr dy))) ∧ Few m ∧ Below w.heap.size w w'
set_option maxHeartbeats 2000000 in
theorem gmove_any (va : Value) (l : List Bd) (dx dy : Int) (w : World) (h : Rg w va l) (few : Few l) (x0 : I64 dx) (y0 : I64 dy) : Calls Try.prog 13 #[va, .int .i64 dx, .int .i64 dy] w (MvR w l dx dy) := by
  obtain ⟨⟨v, rfl, hv⟩, wf, ir⟩ := h
  have LB := bands_len wf ir
  have FW := Lib.hid few
  have WF := Lib.hid wf
  have IR := Lib.hid ir
  have X0 := Lib.hid x0
  have Y0 := Lib.hid y0
  obtain ⟨a, n, c, ys, rfl, hbl, hn, nb, nc, hcell⟩ := hv
  have HBL := Lib.hid hbl
  have HCE := Lib.hid hcell
  have HN := Lib.hid hn
  clear hbl hcell hn wf ir few x0 y0
  go_enter Try.func13, Try.ntmps13
  go_wp2_with fail
  obtain ⟨wl, hwl⟩ : ∃ wl, (w.alloc (.cells #[.slice a n c] 26)).alloc (.cells #[.slice none 0 0] 26) = wl := ⟨_, rfl⟩
  rw [hwl]
  have WL : Hid (Below w.heap.size w wl) := Lib.hid (by rw [← hwl]; go_grown)
  have WS : wl.heap.size = w.heap.size + 2 := by rw [← hwl]; simp
  have CR : Hid (wl.heap[w.heap.size + 1]? = some (.cells #[.slice none 0 0] 26 (0, 0))) := Lib.hid (by
    rw [← hwl]
    have e : w.heap.size + 1 = (w.alloc (Obj.cells #[.slice a n c] 26)).heap.size := by simp
    rw [e]
    exact heap_alloc_new _ _)
  clear hwl
  go_loopw [7, 13] (fun s7 s13 wr => ∃ (j : Nat) (m : List Bd) (pe : Option Addr) (ce : Nat) (xs : List Value), s7 = .slice pe m.length ce ∧ s13 = .int .i64 j ∧ j ≤ n ∧ Hid (Mv (nr dx) (nr dy) l j m) ∧ Hid (wr.ownsRow wl.heap.size 86 3 (.slice pe m.length ce) m.length xs) ∧ Hid (BL wr m xs) ∧ wl.heap.size ≤ wr.heap.size ∧ Hid (Below wl.heap.size wl wr)) (fun _ s13 _ => n - (intOf s13).toNat)
  case atStart => exact ⟨0, [], none, 0, [], rfl, rfl, by omega, Lib.hid (Mv.start _ _ _), Lib.hid (World.ownsRow_nil _ _ _ _), Lib.hid rfl, Nat.le_refl _, Lib.hid (Below.refl _ _)⟩
  case round =>
    obtain ⟨j, m, pe, ce, xs, rfl, rfl, jn, HM, HO, HB, hsz, KB⟩ := hrel
    have LM := Lib.hid (bands_len HM.out.wf HM.out.inr)
    by_cases lt : j < n
    · have lt' : (j : Int) < (n : Int) := by omega
      obtain ⟨g, rfl, hcl⟩ := HCE.out (by omega)
      obtain ⟨d, hd⟩ : ∃ d, l[j]? = some d := ⟨_, List.getElem?_eq_getElem (by have := HN.out; omega)⟩
      have mem := List.mem_of_getElem? hd
      have OK := Lib.hid (wf_ok WF.out d mem)
      have FD := Lib.hid (FW.out d mem)
      have IRd : Hid (InR [⟨d.t, d.b, d.es⟩]) := Lib.hid (fun c mc => by rw [List.mem_singleton] at mc; subst mc; exact IR.out d mem)
      obtain ⟨ev, x0, x1, x2, he⟩ := HBL.out.get j d hd
      have BW := Lib.hid (bel_tr0 WL.out KB.out)
      have HE := Lib.hid (he.later BW.out)
      obtain ⟨ea, en, ec, rfl, _⟩ : ∃ ea en ec, ev = .slice ea en ec ∧ True := by
        obtain ⟨a, n, c, e, _⟩ := he
        exact ⟨a, n, c, e, trivial⟩
      have d0 := cell_later BW.out (hcl _ _ x0)
      have d1 := cell_later BW.out (hcl _ _ x1)
      have d2 := cell_later BW.out (hcl _ _ x2)
      rw [show 3 * j = j * 3 by omega] at d0 d1 d2
      have ST := Lib.hid (HM.out.step WF.out hd)
      have NZ : Hid (∀ d ∈ m, d.es ≠ []) := Lib.hid (fun d mm => (wf_ok HM.out.wf d mm).ne)
      clear x0 x1 x2 hcl he hd mem
      go_wp2_with fail
      refine (moved_any d.t d.b dx dy _ d.es _ (HE.out.later (by go_grown)) OK.out IRd.out FD.out X0.out Y0.out).mono ?_
      rintro _ w2 ⟨T, B, v2, rfl, hev, htb, hb⟩
      have K2 := Lib.hid (show Below wl.heap.size wl w2 from bel_tr0 (KB.out.alloc hsz (.cells #[.int .i64 d.t, .int .i64 d.b, .slice ea en ec] 86)) hb)
      have H2 := Lib.hid (owns_later (HO.out.alloc (.cells #[.int .i64 d.t, .int .i64 d.b, .slice ea en ec] 86)) hb)
      have BL2 := Lib.hid (HB.out.later (show Below wr.heap.size wr w2 from bel_tr0 (by go_grown) hb))
      have EV2 := Lib.hid hev
      have hs2 := K2.out.size
      have SE : Hid (stk m ⟨T, B, (mvB (nr dx) (nr dy) ⟨d.t, d.b, d.es⟩).es⟩ = stk m (mvB (nr dx) (nr dy) d)) := Lib.hid (by
        by_cases z : (mvB (nr dx) (nr dy) ⟨d.t, d.b, d.es⟩).es = []
        · rw [z, stk_nil, stk_empty _ _ z]
        · obtain ⟨rfl, rfl⟩ := htb z
          rfl)
      obtain ⟨va, vn, vc, rfl, _⟩ : ∃ ea en ec, v2 = .slice ea en ec ∧ True := by
        obtain ⟨a, n, c, e, _⟩ := hev
        exact ⟨a, n, c, e, trivial⟩
      clear hb hev htb d0 d1 d2
      go_wp2_with fail
      refine (stacked_any wl.heap.size _ _ xs m T B _ _ w2 H2.out BL2.out rfl hs2 EV2.out (by have := LM.out; omega) NZ.out).mono ?_
      rintro _ w3 ⟨v3, n3, zs, rfl, ho, hbl, hn3, hb⟩
      rw [SE.out] at hbl hn3
      subst hn3
      obtain ⟨pe2, ce2, rfl⟩ : ∃ pe2 ce2, v3 = .slice pe2 (stk m (mvB (nr dx) (nr dy) d)).length ce2 := by
        rcases Joins.ownsRow_forms ho with ⟨rfl, h⟩ | ⟨g, cap, rfl⟩
        · exact ⟨none, 0, by rw [h]⟩
        · exact ⟨_, cap, rfl⟩
      have HO3 := Lib.hid ho
      have HB3 := Lib.hid hbl
      have K3 := Lib.hid (K2.out.trans hb)
      have hs3 := K3.out.size
      clear ho hbl hb
      go_wp2_with fail
      go_roundw
      case rel => exact ⟨j + 1, _, pe2, ce2, zs, rfl, by go_num, by omega, ST, HO3, HB3, hs3, K3⟩
      case measure => simp [intOf]; omega
    · obtain rfl : j = n := by omega
      have nlt : ¬ (j : Int) < (j : Int) := by omega
      have hk : wr.heap[w.heap.size + 1]? = some (.cells #[.slice none 0 0] 26 (0, 0)) := (KB.out.block _ (by omega)).trans CR.out
      have hc : wr.cell? ⟨w.heap.size + 1, 0, none⟩ = some (.slice none 0 0) := by simp [World.cell?, hk]
      have hf : wr.frozen? ⟨w.heap.size + 1, 0, none⟩ = false := by simp [World.frozen?, hk]
      have lt2 := World.block_lt_of_cell? wr _ hc
      have FIN : Hid (∀ u, MvR w l dx dy (.returned (.agg #[.slice pe m.length ce])) (wr.setCell ⟨w.heap.size + 1, 0, none⟩ u)) := Lib.hid (fun u => by
        have bs := BS.of_owns HO.out HB.out rfl (by have := LM.out; omega)
        refine ⟨_, m, rfl, ⟨⟨_, rfl, bs.setR hk hc u⟩, HM.out.wf, HM.out.inr⟩, HM.out.fin HN.out, HM.out.few 1000 FW.out, ?_⟩
        exact (bel_tr0 WL.out KB.out).setCell (by show w.heap.size ≤ w.heap.size + 1; omega) u)
      clear hk
      go_wp2_with fail
      refine bodyPost_ret (v := .agg #[.slice pe m.length ce]) (by simp [results, Try.results13, go_sem, hc]) rfl ?_
      exact FIN.out _
end Go.Proofs.Ytjemnjboopabpaa
