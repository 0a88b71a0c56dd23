/- LineStands: the law. Made by gen/stab.py. -/
import Derived.Test.YtmelbgabiklojaaStaA
import Derived.WalkKit
import Derived.WalkSpells
import Derived.WalkLawsBesides
import Derived.Handy
import Derived.Lib.Hide
import Derived.Deep.QuietTactic
import Derived.BigQuiet
import Derived.LoopTactic
import Derived.RegionTactic
import Derived.BigRegion
import Derived.Outline
import Derived.Deep.DeepCutAuto
import Derived.Deep.CutBlock
namespace Go.Proofs.Ytmelbgabiklojaa
open Go.RowKit Go.Proofs.Reg Go.Proofs.Big Lin
set_option linter.unusedVariables false
set_option linter.unusedSimpArgs false
set_option maxRecDepth 100000
theorem run_len2 {A : Act} {w : World} {p : Operand} {a : Option Addr} {n c : Nat} {ty : TypeId} {x : Option Tmp} {ps : String} {af : Array Edge} {gd : Option (Nat × Bool)} (e : A.eval p = .slice a n c) :
    (execOp A.eval ⟨x, .call { callee := .builtin .len, args := #[p], argTypes := #[37] }, ty, ps, af, gd⟩).run Try.prog w = .ok (.value (.int .i64 (n : Int))) w := by
  simp only [execOp, resolve, List.map_toArray, List.map_cons, List.map_nil, e]
  simp [go_sem]
theorem lk_at2 {w : World} {a : Option Addr} {n c : Nat} {l : List L4} (h : KS LK w (.slice a n c) l) {k : Nat} (lt : k < n) : ∃ g o x y z t, a = some ⟨g, o, none⟩ ∧ l[k]? = some (x, y, z, t) ∧ w.cell? ⟨g, o + k * 4, none⟩ = some (.int .i64 x) ∧ w.cell? ⟨g, o + k * 4 + 1, none⟩ = some (.int .i64 y) ∧ w.cell? ⟨g, o + k * 4 + 2, none⟩ = some (.int .i64 z) ∧ w.cell? ⟨g, o + k * 4 + 3, none⟩ = some (.int .i64 t) := by
  obtain ⟨a', n', c', e, hn, hc, hm, h5⟩ := h
  simp only [Value.slice.injEq] at e
  obtain ⟨rfl, rfl, rfl⟩ := e
  obtain ⟨g, o, rfl, hk⟩ := h5 (by omega)
  obtain ⟨⟨x, y, z, t⟩, hr⟩ : ∃ r, l[k]? = some r := ⟨_, List.getElem?_eq_getElem (by omega)⟩
  have H := hk k _ hr
  exact ⟨g, o, x, y, z, t, rfl, hr, H 0 _ rfl, H 1 _ rfl, H 2 _ rfl, H 3 _ rfl⟩
theorem sml_items2 {l0 : List (Int × Int × Bool)} (hi : ∀ r ∈ l0, InS r) : Sml ((l0.take 40).map smI) := by
  refine ⟨by rw [List.length_map, List.length_take]; omega, fun r hr => ?_⟩
  obtain ⟨q, hq, rfl⟩ := List.mem_map.1 hr
  have := hi q (List.mem_of_mem_take hq)
  exact ⟨this.1.1, this.1.2, this.2.1, this.2.2⟩
theorem inI_items2 {l0 : List (Int × Int × Bool)} (hi : ∀ r ∈ l0, InS r) : ∀ r ∈ (l0.take 40).map smI, InI r := fun r hr => by
  obtain ⟨q, hq, rfl⟩ := List.mem_map.1 hr
  have := hi q (List.mem_of_mem_take hq)
  obtain ⟨⟨a, b⟩, c, d⟩ := this
  refine ⟨⟨?_, ?_⟩, ⟨?_, ?_⟩, ⟨?_, ?_⟩⟩ <;> simp only [smI] <;> omega
theorem ch_len2 {l : List I4} {av v : Int} : ∀ (ls : List L4) (f : Nat), Ch l av v f ls → ls.length + f ≤ l.length
  | [], f, h => by have : f = l.length := h; simp; omega
  | x :: r, f, ⟨h0, h1, h2⟩ => by
    have := ch_len2 r x.2.1 h2
    have := h1.ft
    rw [List.length_cons]; omega
theorem ch_at2 {l : List I4} {av v : Int} {ls : List L4} {i at_ f t : Nat} {W H : Int} (h : Ch l av v at_ (ls.drop i)) (hx : ls[i]? = some (f, t, W, H)) : LP l av v f t W ∧ Ch l av v t (ls.drop (i + 1)) := by
  have lt : i < ls.length := (List.getElem?_eq_some_iff.1 hx).1
  rw [List.drop_eq_getElem_cons lt, (List.getElem?_eq_some_iff.1 hx).2] at h
  obtain ⟨h0, h1, h2⟩ := h
  have e : f = at_ := h0
  subst e
  exact ⟨h1, h2⟩
theorem tab_but3 {bs : List Nat} {w w' : World} {l : List (Nat × List Value)} (h : Tab w l) (hb : But bs w w') (hn : ∀ (k b : Nat) (vs : List Value), l[k]? = some (b, vs) → b ∉ bs) : Tab w' l := fun k b vs hk i v hi => by
  obtain ⟨c, f⟩ := h k b vs hk i v hi
  exact ⟨hb.cell (hn k b vs hk) c, (hb.frozen (p := ⟨b, i, none⟩) (hn k b vs hk) (World.block_lt_of_cell? w _ c)).trans f⟩
theorem var_tab {w : World} {x : Nat} {u : Value} (h : Var w ⟨x, 0, none⟩ u) : ∀ (i : Nat) (y : Value), [u][i]? = some y → w.cell? ⟨x, i, none⟩ = some y ∧ w.frozen? ⟨x, i, none⟩ = false := fun i y hy => by
  match i, hy with
  | 0, hy => obtain rfl := Option.some.inj hy; exact ⟨h.c, h.z⟩
  | i + 1, hy => simp at hy
/-- the number in the loop's box -/
def txOf (w : World) (v : Value) : Nat := match v with
  | .pointer (some p) => match w.cell? p with
    | some (.int _ n) => n.toNat
    | _ => 0
  | _ => 0
theorem txOf_eq {w : World} {b : Nat} {n : Int} (h : w.cell? ⟨b, 0, none⟩ = some (.int .i64 n)) : txOf w (.pointer (some ⟨b, 0, none⟩)) = n.toNat := by
  simp [txOf, h]
theorem ovs_own {w : World} {p : Nat} {l : List I4} {f m : Nat} {a0 d : Int} {j : Bool} (h : OwnI w p (ovs l f m a0 d j)) {k : Nat} (hk : k ≤ m) : w.cell? ⟨p, k, none⟩ = some (.int .i64 (ov l f m a0 d j k)) := by
  have g := ovs_get l f m a0 d j hk
  have lt : k < (ovs l f m a0 d j).length := (List.getElem?_eq_some_iff.1 g).1
  have := h.cell k lt
  rw [List.getD_eq_getElem?_getD, g] at this
  exact this
theorem ov_rng {l : List I4} (hs : Sml l) {f m : Nat} {a0 d : Int} {j : Bool} (h0 : -6000000 ≤ a0) (h1 : a0 ≤ 200000) (hd : j = true → 0 ≤ d) (hd1 : d ≤ 200000) {k : Nat} (hk : k ≤ m) (hm : m ≤ 40) : -6000000 ≤ ov l f m a0 d j k ∧ ov l f m a0 d j k ≤ 10000000 := by
  have A := AS_rng hs f k
  have G := gF_rng (d := d) (m := m) (j := j) hd hk
  unfold ov; omega
set_option maxHeartbeats 32000000 in
theorem law_stands (a0' : Option Addr) (n0 c0 : Nat) (l0 : List (Int × Int × Bool)) (av mo : Int) (ha : 0 ≤ av ∧ av ≤ 65535) (hmo : 0 ≤ mo ∧ mo ≤ 255) (w : World) (hW : KS SmK w (.slice a0' n0 c0) l0) (hi : ∀ r ∈ l0, InS r) :
    Calls Try.prog 4 #[.slice a0' n0 c0, .int .u16 av, .int .u8 mo] w fun e w' => e = .returned (.bool true) ∧ Below w.heap.size w w' := by
  have hmf : ∀ (fn : Fn) (first cap : Array Value) (w : World), (Instr.makeFunc fn first cap).run Try.prog w = .ok (.func fn first cap) w := fun _ _ _ _ => rfl
  have SP := Lib.hid speaks13_any
  have HW := Lib.hid hW
  have IT := Lib.hid (fun w h => items13_any a0' n0 c0 l0 hi w h)
  have hs := sml_items2 hi
  have hin := inI_items2 hi
  obtain ⟨l, hl⟩ : ∃ l, (l0.take 40).map smI = l := ⟨_, rfl⟩
  rw [hl] at hs hin IT
  have HS := Lib.hid hs
  have HI := Lib.hid hin
  have HMO := Lib.hid hmo
  obtain ⟨av0, av1⟩ := ha
  have cv : ∀ wy : World, (convert 23 2 (.int .u16 av)).run Try.prog wy = .ok (.int .i64 av) wy := cv16 av ⟨av0, av1⟩
  clear hW hi hl hin hmo
  go_enter Try.func4, Try.ntmps4
  go_wp2_with fail
  have KB0 : Hid (Below w.heap.size w (w.alloc (.cells #[.int .u8 mo] 5))) := Lib.hid (bel_newR _ _)
  have KT0 : Hid (Tab (w.alloc (.cells #[.int .u8 mo] 5)) [(w.heap.size, [.int .u8 mo])]) := Lib.hid ((Tab.nil w).new' _ _ rfl)
  refine (SP.out _).mono ?_
  rintro e w1 ⟨rfl, hb⟩
  have KB1 := Lib.hid (bel_tr0 KB0.out hb)
  have KT1 := Lib.hid (KT0.out.later hb)
  have H1 := Lib.hid (HW.out.later KB1.out)
  obtain ⟨b5, hb5⟩ : ∃ x, w.heap.size = x := ⟨_, rfl⟩
  rw [hb5] at KT1
  simp only [hb5]
  have B5 := Lib.hid hb5
  clear hb HW KB0 KT0 hb5
  go_wp2_with fail
  refine (IT.out _ H1.out).mono ?_
  rintro e w2 ⟨u, rfl, k1, hb⟩
  obtain ⟨a, n, c, rfl, hn1, hc1, hm1, _⟩ := id k1
  have KI2 := Lib.hid k1
  have HN : Hid (n = l.length) := Lib.hid hn1
  have n40 : n ≤ 40 := by have := hs.n; omega
  have KB2 := Lib.hid (bel_tr0 KB1.out hb)
  have KT2 := Lib.hid (KT1.out.later hb)
  clear hb k1 KB1 KT1 H1 IT hn1 hc1 hm1 hs
  go_wp2_with fail
  obtain ⟨b, hbq⟩ : ∃ b, w2.heap.size = b := ⟨_, rfl⟩
  have l5 : b5 < b := by rw [← hbq]; exact KT2.out.lt 0 rfl
  obtain ⟨w3, hw3⟩ : ∃ x, ((w2.alloc (.cells #[.slice a n c] 25)).alloc (.cells #[.slice none 0 0] 27)).alloc (.cells #[.int .i64 av] 2) = x := ⟨_, rfl⟩
  have T3 : Hid (Tab w3 [(b + 2, [.int .i64 av]), (b + 1, [.slice none 0 0]), (b, [.slice a n c]), (b5, [.int .u8 mo])]) := Lib.hid (by
    rw [← hw3, ← hbq]
    exact ((KT2.out.new' _ _ rfl).new' _ _ (by simp)).new' _ _ (by simp))
  have B3 : Hid (Below w2.heap.size w2 w3) := Lib.hid (by rw [← hw3]; exact bel_tr0 (bel_tr0 (bel_newR _ _) (bel_newR _ _)) (bel_newR _ _))
  have KI3 := Lib.hid (KI2.out.later B3.out)
  rw [hw3]
  simp only [World.size_alloc, hbq, Nat.add_assoc, Nat.reduceAdd]
  have BQ : Hid (w2.heap.size = b) := Lib.hid hbq
  clear hw3 hbq KT2
  obtain ⟨ls, v, h1, h2, h3, hv, hch, hone⟩ := greedy HS.out av
  have CH0 : Hid (Ch l av v 0 (ls.drop 0)) := Lib.hid hch
  have CL := Lib.hid (ch_len2 ls 0 hch)
  clear hch hone hv h2 h3
  have TR : Hid (Calls Try.prog 12 #[.func (.func 18) #[] #[.pointer (some ⟨b, 0, none⟩), .pointer (some ⟨b + 2, 0, none⟩), .pointer (some ⟨b + 1, 0, none⟩)]] w3 fun e w' => e = .returned (.int .i64 0) ∧ SlQ (b + 1) w3.heap.size w3 ls w') := Lib.hid (ls1_try b (b + 2) (b + 1) a n c l av ls (by omega) ⟨by omega, by omega⟩ HI.out h1 w3 (T3.out.cell 2 0 rfl rfl) (T3.out.cell 0 0 rfl rfl) ⟨T3.out.cell 1 0 rfl rfl, T3.out.froz 1 0 rfl rfl⟩ KI3.out)
  refine TR.out.mono ?_
  rintro e w4 ⟨rfl, hbut, ga, gn, gc, q7, gk, gp⟩
  have B4 : Hid (Below w2.heap.size w2 w4) := Lib.hid (But.below B3.out hbut B3.out.size (fun i hi => by have := BQ.out; simp at hi; omega))
  have KB4 : Hid (Below w.heap.size w w4) := Lib.hid (bel_tr0 KB2.out B4.out)
  have IK4 := Lib.hid (KI2.out.later B4.out)
  have GK := Lib.hid gk
  obtain ⟨gn1, gc1, gm1⟩ := gk.len
  have GN := Lib.hid gn1
  have gn40 : gn ≤ 40 := by have := CL.out; have := HN.out; omega
  have T4 : Hid (Tab w4 [(b + 2, [.int .i64 av]), (b + 1, [.slice ga gn gc]), (b, [.slice a n c]), (b5, [.int .u8 mo])]) := Lib.hid (by
    have q5 := (Var.mk (T3.out.cell 0 0 rfl rfl) (T3.out.froz 0 0 rfl rfl)).but hbut (by simp)
    have q6 := (Var.mk (T3.out.cell 2 0 rfl rfl) (T3.out.froz 2 0 rfl rfl)).but hbut (by simp)
    have q8 := (Var.mk (T3.out.cell 3 0 rfl rfl) (T3.out.froz 3 0 rfl rfl)).but hbut (by simp; omega)
    exact ((((Tab.nil w4).cons (var_tab q8)).cons (var_tab q6)).cons (var_tab q7)).cons (var_tab q5))
  have L4' : Hid (b + 2 < w4.heap.size) := Lib.hid (T4.out.lt 0 rfl)
  have AB : Hid (∀ p : Addr, a = some p → 0 < n → p.block < w4.heap.size) := Lib.hid (fun p e hp => by
    obtain ⟨a', n', c', e', hn', _, _, h5⟩ := IK4.out
    simp only [Value.slice.injEq] at e'
    obtain ⟨rfl, rfl, rfl⟩ := e'
    obtain ⟨g, o, rfl, hk⟩ := h5 hp
    obtain rfl := Option.some.inj e
    obtain ⟨r, hr⟩ : ∃ r, l[0]? = some r := ⟨_, List.getElem?_eq_getElem (by omega)⟩
    exact World.block_lt_of_cell? w4 _ (hk 0 r hr 0 _ rfl))
  clear hbut q7 gk gp T3 B3 KI2 KI3 KB2 B4 TR h1 BQ gn1 CL
  have KB : Hid (Below w4.heap.size w4 w4) := Lib.hid (Below.refl _ _)
  have KT := T4
  go_wp2_with fail
  go_loopw [11, 140, 165, 184, 188, 195, 199] (fun s11 s140 s165 s184 s188 s195 s199 wr => ∃ (at_ i : Nat), (s140 = undef ∨ s140 = .bool false) ∧ (s165 = undef ∨ s165 = .bool false) ∧ ((s184 = undef ∧ s188 = undef ∧ s195 = undef ∧ s199 = undef) ∨ s184 = .bool false) ∧ s11 = .int .i64 i ∧ i ≤ gn ∧ Hid (Ch l av v at_ (ls.drop i)) ∧ Hid (Below w4.heap.size w4 wr) ∧ Hid (Tab wr [(b + 2, [.int .i64 av]), (b + 1, [.slice ga gn gc]), (b, [.slice a n c]), (b5, [.int .u8 mo])])) (fun s11 _ _ _ _ _ _ _ => gn - (intOf s11).toNat)
  case atStart => exact ⟨0, 0, .inl rfl, .inl rfl, .inl ⟨rfl, rfl, rfl, rfl⟩, rfl, by omega, CH0, KB, KT⟩
  case round =>
    obtain ⟨at_, i, h140, h165, h184, rfl, ign, CHi, KBr, KTr⟩ := hrel
    have c8 := KTr.out.cell 1 0 rfl rfl
    by_cases li : i < gn
    · have li' : (i : Int) < (gn : Int) := by omega
      obtain ⟨g2, o2, f, t, W, H, rfl, hx, y0, y1, y2, y3⟩ := lk_at2 (GK.out.later KBr.out) li
      obtain ⟨lp, chn⟩ := ch_at2 CHi.out hx
      have CHn := Lib.hid chn
      obtain ⟨m, hm⟩ : ∃ m, t = f + m + 1 := ⟨t - f - 1, by have := lp.ft; omega⟩
      have HM := Lib.hid hm
      have tn : t ≤ n := by rw [HN.out]; exact lp.tn
      have HWd : Hid (wd l f (f + m + 1) = W) := Lib.hid (by rw [← hm]; exact lp.wv.symm)
      obtain ⟨g, o, _, _, _, _, rfl, _, _, _, _, _, _⟩ := IK.at IK4.out (show 0 < n by omega)
      have ixl : ∀ wy : World, (Instr.indexAt 27 (.slice (some ⟨g2, o2, none⟩) gn gc) (.int .i64 i)).run Try.prog wy = .ok (.pointer (some ⟨g2, o2 + i * 4, none⟩)) wy := fun wy => by
        have k0 : (0 : Int) ≤ (i : Int) := by omega
        simp [go_sem, k0, li', Addr.add]
        try omega
      clear lp chn hx CHi hm
      go_upto_region 11 with fail
      obtain ⟨b12, hb12⟩ : ∃ b, wr.heap.size = b := ⟨_, rfl⟩
      obtain ⟨wl, hwl⟩ : ∃ x, wr.alloc (.cells #[.int .i64 (f : Int), .int .i64 (t : Int), .int .i64 W, .int .i64 H] 33) = x := ⟨_, rfl⟩
      have KTl : Hid (Tab wl [(b12, [.int .i64 (f : Int), .int .i64 (t : Int), .int .i64 W, .int .i64 H]), (b + 2, [.int .i64 av]), (b + 1, [.slice (some ⟨g2, o2, none⟩) gn gc]), (b, [.slice (some ⟨g, o, none⟩) n c]), (b5, [.int .u8 mo])]) := Lib.hid (by rw [← hwl]; exact KTr.out.new' _ _ hb12.symm)
      have KBl : Hid (Below w4.heap.size w4 wl) := Lib.hid (by rw [← hwl]; exact bel_tr0 KBr.out (bel_newR _ _))
      have B12 : Hid (w4.heap.size ≤ b12) := Lib.hid (by rw [← hb12]; exact KBr.out.size)
      rw [hwl]
      try simp only [hb12]
      clear hwl hb12 KTr KBr c8 y0 y1 y2 y3 ixl
      go_upto_block 2 with fail
      · go_wp2_with fail
        go_loopw [13, 140, 165, 184, 188, 195, 199] (fun s13 s140 s165 s184 s188 s195 s199 wx => ∃ (bx tx : Nat) (wq : World), (s140 = undef ∨ s140 = .bool false) ∧ (s165 = undef ∨ s165 = .bool false) ∧ ((s184 = undef ∧ s188 = undef ∧ s195 = undef ∧ s199 = undef) ∨ s184 = .bool false) ∧ wq = wx ∧ s13 = .pointer (some ⟨bx, 0, none⟩) ∧ 1 ≤ tx ∧ tx ≤ 5 ∧ b12 < bx ∧ Hid (Below w4.heap.size w4 wq) ∧ Hid (Tab wq [(bx, [.int .i64 (tx : Int)]), (b12, [.int .i64 (f : Int), .int .i64 (t : Int), .int .i64 W, .int .i64 H]), (b + 2, [.int .i64 av]), (b + 1, [.slice (some ⟨g2, o2, none⟩) gn gc]), (b, [.slice (some ⟨g, o, none⟩) n c]), (b5, [.int .u8 mo])])) (fun s13 _ _ _ _ _ _ wx => 5 - txOf wx s13)
        case atStart => exact ⟨wl.heap.size, 1, _, h140, h165, h184, rfl, rfl, by omega, by omega, KTl.out.lt 0 rfl, Lib.hid (bel_tr0 KBl.out (bel_newR _ _)), Lib.hid (KTl.out.new' _ _ rfl)⟩
        case round =>
          clear h140 h165 h184
          obtain ⟨bx, tx, wx, h140, h165, h184, rfl, rfl, tx1, tx5, bbx, KBx, KTx⟩ := hrel
          have TXE : Hid (txOf wx (.pointer (some ⟨bx, 0, none⟩)) = tx) := Lib.hid (by rw [txOf_eq (KTx.out.cell 0 0 rfl rfl)]; omega)
          have cx := KTx.out.cell 0 0 rfl rfl
          by_cases tl : tx ≤ 4
          · have tl' : (tx : Int) ≤ 4 := by omega
            go_upto_region 15 with fail
            obtain ⟨h, hh⟩ : ∃ x, wx.heap.size = x := ⟨_, rfl⟩
            have lbx : bx < h := by rw [← hh]; exact KTx.out.lt 0 rfl
            have lb4 := B12.out
            have lb5 := L4'.out
            obtain ⟨w5, hw5⟩ : ∃ x, (wx.alloc (.cells #[.slice none 0 0] 37)).alloc (.cells #[.slice none 0 0] 37) = x := ⟨_, rfl⟩
            have T5 : Hid (Tab w5 [(h + 1, [.slice none 0 0]), (h, [.slice none 0 0]), (bx, [.int .i64 (tx : Int)]), (b12, [.int .i64 (f : Int), .int .i64 (t : Int), .int .i64 W, .int .i64 H]), (b + 2, [.int .i64 av]), (b + 1, [.slice (some ⟨g2, o2, none⟩) gn gc]), (b, [.slice (some ⟨g, o, none⟩) n c]), (b5, [.int .u8 mo])]) := Lib.hid (by
              rw [← hw5, ← hh]
              exact (KTx.out.new' _ _ rfl).new' _ _ (by simp))
            have B5x : Hid (Below w4.heap.size w4 w5) := Lib.hid (by rw [← hw5]; exact bel_tr0 (bel_tr0 KBx.out (bel_newR _ _)) (bel_newR _ _))
            rw [hw5]
            simp only [World.size_alloc, hh]
            clear hw5 hh cx KBx KTx
            obtain ⟨d, hd⟩ : ∃ d, av - W = d := ⟨_, rfl⟩
            obtain ⟨d1, hd1⟩ : ∃ d, av + mo - W = d := ⟨_, rfl⟩
            obtain ⟨a0, ha0⟩ : ∃ x, indF d (tx : Int) = x := ⟨_, rfl⟩
            obtain ⟨a1, ha1⟩ : ∃ x, indF d1 (tx : Int) = x := ⟨_, rfl⟩
            obtain ⟨j, hj⟩ : ∃ x : Bool, x = ((tx : Int) == 4 && decide (0 < d) && decide (f + m + 1 < n)) := ⟨_, rfl⟩
            obtain ⟨j1, hj1⟩ : ∃ x : Bool, x = ((tx : Int) == 4 && decide (0 < d1) && decide (f + m + 1 < n)) := ⟨_, rfl⟩
            have mo0 := HMO.out
            have WR := wd_rng HS.out f (f + m + 1) (by rw [← HN.out, ← HM.out]; exact tn)
            rw [HWd.out] at WR
            have O1 : ∀ w, KS IK w (.slice (some ⟨g, o, none⟩) n c) l → Calls Try.prog 20 #[.slice (some ⟨g, o, none⟩) n c, .agg #[.int .i64 (f : Int), .int .i64 (t : Int), .int .i64 W, .int .i64 H], .int .i64 av, .int .i64 (tx : Int)] w fun e w' => (∃ b, e = .returned (.slice (some ⟨b, 0, none⟩) (m + 1) (m + 1)) ∧ w.heap.size ≤ b ∧ OwnI w' b (ovs l f m a0 d j)) ∧ Below w.heap.size w w' := fun w h => by
              have := offs_small _ n c l HS.out HI.out HN.out f m H av tx d j (by rw [← HM.out]; exact tn) ⟨av0, by omega⟩ (by rw [HWd.out]; exact hd) hj w h
              rw [ha0, HWd.out, ← HM.out] at this
              exact this
            have O2 : ∀ w, KS IK w (.slice (some ⟨g, o, none⟩) n c) l → Calls Try.prog 20 #[.slice (some ⟨g, o, none⟩) n c, .agg #[.int .i64 (f : Int), .int .i64 (t : Int), .int .i64 W, .int .i64 H], .int .i64 (av + mo), .int .i64 (tx : Int)] w fun e w' => (∃ b, e = .returned (.slice (some ⟨b, 0, none⟩) (m + 1) (m + 1)) ∧ w.heap.size ≤ b ∧ OwnI w' b (ovs l f m a1 d1 j1)) ∧ Below w.heap.size w w' := fun w h => by
              have := offs_small _ n c l HS.out HI.out HN.out f m H (av + mo) tx d1 j1 (by rw [← HM.out]; exact tn) ⟨by omega, by omega⟩ (by rw [HWd.out]; exact hd1) hj1 w h
              rw [ha1, HWd.out, ← HM.out] at this
              exact this
            have TR2 : Hid (Calls Try.prog 12 #[.func (.func 19) #[] #[.pointer (some ⟨b, 0, none⟩), .pointer (some ⟨b12, 0, none⟩), .pointer (some ⟨b + 2, 0, none⟩), .pointer (some ⟨bx, 0, none⟩), .pointer (some ⟨b5, 0, none⟩), .pointer (some ⟨h, 0, none⟩), .pointer (some ⟨h + 1, 0, none⟩)]] w5 fun e w' => e = .returned (.int .i64 0) ∧ StQ h (h + 1) m w5.heap.size w5 (ovs l f m a0 d j) (ovs l f m a1 d1 j1) w') := Lib.hid (ls2_try b b12 (b + 2) bx b5 h (h + 1) m (some ⟨g, o, none⟩) n c l f t W H av tx mo _ _ ⟨av0, av1⟩ HMO.out O1 O2 w5 (T5.out.cell 6 0 rfl rfl) ⟨T5.out.cell 3 0 rfl rfl, T5.out.cell 3 1 rfl rfl, T5.out.cell 3 2 rfl rfl, T5.out.cell 3 3 rfl rfl⟩ (T5.out.cell 4 0 rfl rfl) (T5.out.cell 2 0 rfl rfl) (T5.out.cell 7 0 rfl rfl) ⟨T5.out.cell 1 0 rfl rfl, T5.out.froz 1 0 rfl rfl⟩ ⟨T5.out.cell 0 0 rfl rfl, T5.out.froz 0 0 rfl rfl⟩ (by omega) (by simp; omega) (by simp; omega) (by simp; omega) (by simp; omega) (by simp; omega) (fun p e hp => by have := AB.out p e hp; simp; omega) (IK4.out.later B5x.out))
            have JD : Hid (j = true → 0 ≤ d) := Lib.hid (fun q => by
              rw [q] at hj
              have : ((tx : Int) == 4 && decide (0 < d) && decide (f + m + 1 < n)) = true := hj.symm
              simp at this; omega)
            have JD1 : Hid (j1 = true → 0 ≤ d1) := Lib.hid (fun q => by
              rw [q] at hj1
              have : ((tx : Int) == 4 && decide (0 < d1) && decide (f + m + 1 < n)) = true := hj1.symm
              simp at this; omega)
            have JJ : Hid (j = true → 0 ≤ d ∧ j1 = true) := Lib.hid (fun q => by
              refine ⟨JD.out q, ?_⟩
              rw [q] at hj
              have : ((tx : Int) == 4 && decide (0 < d) && decide (f + m + 1 < n)) = true := hj.symm
              simp at this
              rw [hj1]; simp; omega)
            have IR : Hid (-6000000 ≤ a0 ∧ a0 ≤ 200000 ∧ -6000000 ≤ a1 ∧ a1 ≤ 200000 ∧ a0 ≤ a1) := Lib.hid (by
              have mm := indF_mono (d := d) (d1 := d1) (t := (tx : Int)) (by omega)
              rw [ha0, ha1] at mm
              unfold indF at ha0 ha1
              split at ha0 <;> split at ha1 <;> (try split at ha0) <;> (try split at ha1) <;> omega)
            have DR : Hid (d ≤ 200000 ∧ d1 ≤ 200000 ∧ d ≤ d1) := Lib.hid (by omega)
            have HJ := Lib.hid hj
            have HA := Lib.hid ha0
            have HDd := Lib.hid hd
            clear O1 O2 hj hj1 ha0 ha1 hd hd1 mo0 WR
            go_wp2_with fail
            refine TR2.out.mono ?_
            rintro e w6 ⟨rfl, hbut, p, q, q1, q2, o1, o2', hp, hq⟩
            have B6 : Hid (Below w4.heap.size w4 w6) := Lib.hid (But.below B5x.out hbut B5x.out.size (fun i hi => by simp at hi; omega))
            have T6 : Hid (Tab w6 [(h + 1, [.slice (some ⟨q, 0, none⟩) (m + 1) (m + 1)]), (h, [.slice (some ⟨p, 0, none⟩) (m + 1) (m + 1)]), (bx, [.int .i64 (tx : Int)]), (b12, [.int .i64 (f : Int), .int .i64 (t : Int), .int .i64 W, .int .i64 H]), (b + 2, [.int .i64 av]), (b + 1, [.slice (some ⟨g2, o2, none⟩) gn gc]), (b, [.slice (some ⟨g, o, none⟩) n c]), (b5, [.int .u8 mo])]) := Lib.hid (by
              have low : Tab w6 [(bx, [.int .i64 (tx : Int)]), (b12, [.int .i64 (f : Int), .int .i64 (t : Int), .int .i64 W, .int .i64 H]), (b + 2, [.int .i64 av]), (b + 1, [.slice (some ⟨g2, o2, none⟩) gn gc]), (b, [.slice (some ⟨g, o, none⟩) n c]), (b5, [.int .u8 mo])] := tab_but3 ((((((((Tab.nil w5).cons (T5.out 7 _ _ rfl)).cons (T5.out 6 _ _ rfl)).cons (T5.out 5 _ _ rfl)).cons (T5.out 4 _ _ rfl)).cons (T5.out 3 _ _ rfl)).cons (T5.out 2 _ _ rfl))) hbut (fun k x vs hk => by
                match k, hk with
                | 0, hk => simp at hk; obtain ⟨rfl, _⟩ := hk; simp; omega
                | 1, hk => simp at hk; obtain ⟨rfl, _⟩ := hk; simp; omega
                | 2, hk => simp at hk; obtain ⟨rfl, _⟩ := hk; simp; omega
                | 3, hk => simp at hk; obtain ⟨rfl, _⟩ := hk; simp; omega
                | 4, hk => simp at hk; obtain ⟨rfl, _⟩ := hk; simp; omega
                | 5, hk => simp at hk; obtain ⟨rfl, _⟩ := hk; simp; omega
                | k + 6, hk => simp at hk)
              exact (low.cons (var_tab q1)).cons (var_tab q2))
            have OX : Hid (∀ k, k ≤ m → ∀ wy, Below w6.heap.size w6 wy → wy.cell? ⟨p, k, none⟩ = some (.int .i64 (ov l f m a0 d j k))) := Lib.hid (fun k hk wy hb => kcell_on hb (ovs_own o1 hk))
            have OY : Hid (∀ k, k ≤ m → ∀ wy, Below w6.heap.size w6 wy → wy.cell? ⟨q, k, none⟩ = some (.int .i64 (ov l f m a1 d1 j1 k))) := Lib.hid (fun k hk wy hb => kcell_on hb (ovs_own o2' hk))
            have IK6 := Lib.hid (IK4.out.later B6.out)
            have ND : Hid ((([h + 1, h, bx, b12, b + 2, b + 1, b, b5] : List Nat)).Nodup) := Lib.hid (by simp; omega)
            clear hbut q1 q2 o1 o2' hp hq T5 B5x TR2
            have KB : Hid (Below w6.heap.size w6 w6) := Lib.hid (Below.refl _ _)
            have KT := T6
            have c14 := T6.out.cell 1 0 rfl rfl
            have c15 := T6.out.cell 0 0 rfl rfl
            have cl0 := T6.out.cell 3 0 rfl rfl
            have cl1 := T6.out.cell 3 1 rfl rfl
            have hne : wrap64 ((t : Int) - (f : Int)) = (m : Int) + 1 := by have := HM.out; simp only [wrap64]; omega
            have IPG : Hid (∀ (r k : Nat), k ≤ m → ∀ wy : World, (Instr.indexAt 37 (.slice (some ⟨r, 0, none⟩) (m + 1) (m + 1)) (.int .i64 (k : Int))).run Try.prog wy = .ok (.pointer (some ⟨r, k, none⟩)) wy) := Lib.hid (fun r k hk wy => by
              have k0 : (0 : Int) ≤ (k : Int) := by omega
              have k1 : (k : Int) < (m : Int) + 1 := by omega
              simp [go_sem, k0, k1, Addr.add]
              try omega)
            have IGG : Hid (∀ k : Nat, k < n → ∀ wy : World, (Instr.indexAt 25 (.slice (some ⟨g, o, none⟩) n c) (.int .i64 (k : Int))).run Try.prog wy = .ok (.pointer (some ⟨g, o + k * 4, none⟩)) wy) := Lib.hid (fun k hk wy => by
              have k0 : (0 : Int) ≤ (k : Int) := by omega
              have k1 : (k : Int) < (n : Int) := by omega
              simp [go_sem, k0, k1, Addr.add]
              try omega)
            have ITM : Hid (∀ k : Nat, k < n → ∃ y z, 0 ≤ y ∧ y ≤ 65535 ∧ 0 ≤ z ∧ z ≤ 65535 ∧ (itm l k).1 = y ∧ (itm l k).2.1 = z ∧ ∀ wy, Below w6.heap.size w6 wy → wy.cell? ⟨g, o + k * 4, none⟩ = some (.int .i64 y) ∧ wy.cell? ⟨g, o + k * 4 + 1, none⟩ = some (.int .i64 z)) := Lib.hid (fun k hk => by
              obtain ⟨g', o', x, y, z, bb, e1, hit, _, z0, z1, z2, z3⟩ := IK.at IK6.out hk
              simp only [Option.some.injEq, Addr.mk.injEq, and_true] at e1
              obtain ⟨rfl, rfl⟩ := e1
              have SM := sml_itm HS.out k
              rw [hit] at SM
              exact ⟨x, y, SM.1, SM.2.1, SM.2.2.1, SM.2.2.2, by rw [hit], by rw [hit], fun wy hb => ⟨kcell_on hb z0, kcell_on hb z1⟩⟩)
            go_upto_block 4 with fail
            clear c15 cl0 cl1 hne
            go_cut [] from 63 to 113 (fun wx => ∃ wv, wv = wx ∧ Hid (Below w6.heap.size w6 wv) ∧ Hid (Tab wv [(h + 1, [.slice (some ⟨q, 0, none⟩) (m + 1) (m + 1)]), (h, [.slice (some ⟨p, 0, none⟩) (m + 1) (m + 1)]), (bx, [.int .i64 (tx : Int)]), (b12, [.int .i64 (f : Int), .int .i64 (t : Int), .int .i64 W, .int .i64 H]), (b + 2, [.int .i64 av]), (b + 1, [.slice (some ⟨g2, o2, none⟩) gn gc]), (b, [.slice (some ⟨g, o, none⟩) n c]), (b5, [.int .u8 mo])]))
            case first => as_aux_lemma =>
              have fm40 : f + m + 1 ≤ 40 := by have := HM.out; omega
              go_wp2_with fail
              go_loopw [17] (fun s17 wx => ∃ (k : Nat) (wv : World), wv = wx ∧ s17 = .int .i64 k ∧ k ≤ m + 1 ∧ Hid (Below w6.heap.size w6 wv) ∧ Hid (Tab wv [(h + 1, [.slice (some ⟨q, 0, none⟩) (m + 1) (m + 1)]), (h, [.slice (some ⟨p, 0, none⟩) (m + 1) (m + 1)]), (bx, [.int .i64 (tx : Int)]), (b12, [.int .i64 (f : Int), .int .i64 (t : Int), .int .i64 W, .int .i64 H]), (b + 2, [.int .i64 av]), (b + 1, [.slice (some ⟨g2, o2, none⟩) gn gc]), (b, [.slice (some ⟨g, o, none⟩) n c]), (b5, [.int .u8 mo])])) (fun s17 _ => m + 1 - (intOf s17).toNat)
              case atStart => exact ⟨0, _, rfl, rfl, by omega, KB, KT⟩
              case round =>
                obtain ⟨kk, wv, rfl, rfl, km, KB, KT⟩ := hrel
                have c14 := KT.out.cell 1 0 rfl rfl
                by_cases lk : kk < m + 1
                · have lk' : (kk : Int) < (m : Int) + 1 := by omega
                  obtain ⟨xk, hxk⟩ : ∃ x, ov l f m a0 d j kk = x := ⟨_, rfl⟩
                  obtain ⟨yk, hyk⟩ : ∃ x, ov l f m a1 d1 j1 kk = x := ⟨_, rfl⟩
                  have AX := Lib.hid (OX.out kk (by omega))
                  have AY := Lib.hid (OY.out kk (by omega))
                  have y1 : ¬ yk < xk := by
                    have := ov_more (l := l) (f := f) (m := m) (k := kk) IR.out.2.2.2.2 DR.out.2.2 JJ.out JD1.out (by omega)
                    omega
                  have Y1 := Lib.hid y1
                  rw [hxk] at AX
                  rw [hyk] at AY
                  have IP := Lib.hid (IPG.out p kk (by omega))
                  have IQ := Lib.hid (IPG.out q kk (by omega))
                  by_cases kp : 0 < kk
                  · obtain ⟨wI, sI, w0, w1', s0, s1, hwi, hsi, CI⟩ := ITM.out (f + kk - 1) (by have := HM.out; omega)
                    have AW : Hid (∀ wy, Below w6.heap.size w6 wy → wy.cell? ⟨g, o + (f + kk - 1) * 4, none⟩ = some (.int .i64 wI)) := Lib.hid (fun wy hb => (CI wy hb).1)
                    have AS2 : Hid (∀ wy, Below w6.heap.size w6 wy → wy.cell? ⟨g, o + (f + kk - 1) * 4 + 1, none⟩ = some (.int .i64 sI)) := Lib.hid (fun wy hb => (CI wy hb).2)
                    obtain ⟨xp, hxp⟩ : ∃ x, ov l f m a0 d j (kk - 1) = x := ⟨_, rfl⟩
                    have AP := Lib.hid (OX.out (kk - 1) (by omega))
                    rw [hxp] at AP
                    have y2 : ¬ xk < xp + wI + sI := by
                      have := ov_next (l := l) (f := f) (m := m) (a0 := a0) JD.out (kk - 1)
                      rw [show f + (kk - 1) = f + kk - 1 by omega, show kk - 1 + 1 = kk by omega, hxp, hxk, hwi, hsi] at this
                      omega
                    have RP := ov_rng HS.out (f := f) (m := m) (a0 := a0) (d := d) (j := j) IR.out.1 IR.out.2.1 JD.out DR.out.1 (k := kk - 1) (by omega) (by have := HM.out; omega)
                    rw [hxp] at RP
                    obtain ⟨rp0, rp1⟩ := RP
                    have IPM : Hid (∀ wy : World, (Instr.indexAt 37 (.slice (some ⟨p, 0, none⟩) (m + 1) (m + 1)) (.int .i64 ((kk : Int) - 1))).run Try.prog wy = .ok (.pointer (some ⟨p, kk - 1, none⟩)) wy) := Lib.hid (fun wy => by
                      rw [show ((kk : Int) - 1) = ((kk - 1 : Nat) : Int) by omega]; exact IPG.out p (kk - 1) (by omega) wy)
                    have IG : Hid (∀ wy : World, (Instr.indexAt 25 (.slice (some ⟨g, o, none⟩) n c) (.int .i64 ((f : Int) + kk - 1))).run Try.prog wy = .ok (.pointer (some ⟨g, o + (f + kk - 1) * 4, none⟩)) wy) := Lib.hid (fun wy => by
                      rw [show ((f : Int) + kk - 1) = ((f + kk - 1 : Nat) : Int) by omega]; exact IGG.out (f + kk - 1) (by have := HM.out; omega) wy)
                    clear hwi hsi CI hxp hxk hyk
                    go_wp2_with fail
                    refine wp_region_vals [some (.int .i64 (kk : Int)), some (.bool true), some (.bool true), some (.slice (some ⟨p, 0, none⟩) (m + 1) (m + 1)), some (.int .i64 (kk : Int)), some (.pointer (some ⟨p, kk, none⟩)), some (.int .i64 xk), some (.slice (some ⟨p, 0, none⟩) (m + 1) (m + 1)), some (.int .i64 (kk : Int)), some (.int .i64 ((kk : Int) - 1)), some (.pointer (some ⟨p, kk - 1, none⟩)), some (.int .i64 xp), some (.slice (some ⟨g, o, none⟩) n c), some (.pointer (some ⟨b12, 0, none⟩)), some (.int .i64 (f : Int)), some (.int .i64 (kk : Int)), some (.int .i64 ((f : Int) + kk)), some (.int .i64 ((f : Int) + kk - 1)), some (.pointer (some ⟨g, o + (f + kk - 1) * 4, none⟩)), some (.pointer (some ⟨g, o + (f + kk - 1) * 4, none⟩)), some (.int .i64 wI), some (.int .i64 (xp + wI)), some (.slice (some ⟨g, o, none⟩) n c), some (.pointer (some ⟨b12, 0, none⟩)), some (.int .i64 (f : Int)), some (.int .i64 (kk : Int)), some (.int .i64 ((f : Int) + kk)), some (.int .i64 ((f : Int) + kk - 1)), some (.pointer (some ⟨g, o + (f + kk - 1) * 4, none⟩)), some (.pointer (some ⟨g, o + (f + kk - 1) * 4 + 1, none⟩)), some (.int .i64 sI), some (.int .i64 (xp + wI + sI)), some (.bool false), some (.bool false), some (.bool false), some (.slice (some ⟨q, 0, none⟩) (m + 1) (m + 1)), some (.int .i64 (kk : Int)), some (.pointer (some ⟨q, kk, none⟩)), some (.int .i64 yk), some (.slice (some ⟨p, 0, none⟩) (m + 1) (m + 1)), some (.int .i64 (kk : Int)), some (.pointer (some ⟨p, kk, none⟩)), some (.int .i64 xk), some (.bool false), some (.bool false)] (fun Lz _ wy => Below w6.heap.size w6 wy ∧ Tab wy [(h + 1, [.slice (some ⟨q, 0, none⟩) (m + 1) (m + 1)]), (h, [.slice (some ⟨p, 0, none⟩) (m + 1) (m + 1)]), (bx, [.int .i64 (tx : Int)]), (b12, [.int .i64 (f : Int), .int .i64 (t : Int), .int .i64 W, .int .i64 H]), (b + 2, [.int .i64 av]), (b + 1, [.slice (some ⟨g2, o2, none⟩) gn gc]), (b, [.slice (some ⟨g, o, none⟩) n c]), (b5, [.int .u8 mo])])
                      [some 69, some 70, some 71, some 72, some 73, some 74, some 75, some 76, some 77, some 78, some 79, some 80, some 81, some 82, some 83, some 84, some 85, some 86, some 87, some 88, some 89, some 90, some 91, some 92, some 93, some 94, some 95, some 96, some 97, some 98, some 99, some 100, some 101, some 102, some 103, some 104, some 105, some 106, some 107, some 108, some 109, some 110, some 111, some 112, some 113] (by kernel_rfl) (by kernel_rfl) (by kernel_rfl) (by kernel_rfl) (by kernel_rfl) (by kernel_rfl) ⟨KB.out.drew, KT.out.later ((Below.refl _ _).drew)⟩ (fun i o ho => ?_) (fun Lz vz wz hL hB => ?_)
                    · match i, ho with
                      | 0, ho =>
                        obtain rfl := Option.some.inj ho
                        intro Az Lz vz wy Kz Ez hB k
                        have e17 : Az.eval (.tmp 17) = .int .i64 (kk : Int) := Ez.out 17 (by kernel_rfl)
                        exact wpo_val (v := .int .i64 (kk : Int)) (run_move e17) (k _ _ rfl hB)
                      | 1, ho =>
                        obtain rfl := Option.some.inj ho
                        intro Az Lz vz wy Kz Ez hB k
                        have e69 : Az.eval (.tmp 69) = .int .i64 (kk : Int) := Ez.dep 0 69 (by kernel_rfl) rfl
                        exact wpo_val (v := .bool true) (run_bin e69 rfl (by simp [go_sem]) (by simp [go_sem]; omega)) (k _ _ rfl hB)
                      | 2, ho =>
                        obtain rfl := Option.some.inj ho
                        intro Az Lz vz wy Kz Ez hB k
                        have e70 : Az.eval (.tmp 70) = .bool true := Ez.dep 1 70 (by kernel_rfl) rfl
                        exact wpo_val (v := .bool true) (run_move e70) (k _ _ rfl hB)
                      | 3, ho =>
                        obtain rfl := Option.some.inj ho
                        intro Az Lz vz wy Kz Ez hB k
                        have e14 : Az.eval (.tmp 14) = .pointer (some ⟨h, 0, none⟩) := Ez.out 14 (by kernel_rfl)
                        have c1_0 := hB.2.cell 1 0 rfl rfl
                        exact wpo_val (v := .slice (some ⟨p, 0, none⟩) (m + 1) (m + 1)) (run_load e14 (by simp [go_sem, c1_0])) (k _ _ rfl hB)
                      | 4, ho =>
                        obtain rfl := Option.some.inj ho
                        intro Az Lz vz wy Kz Ez hB k
                        have e17 : Az.eval (.tmp 17) = .int .i64 (kk : Int) := Ez.out 17 (by kernel_rfl)
                        exact wpo_val (v := .int .i64 (kk : Int)) (run_move e17) (k _ _ rfl hB)
                      | 5, ho =>
                        obtain rfl := Option.some.inj ho
                        intro Az Lz vz wy Kz Ez hB k
                        have e72 : Az.eval (.tmp 72) = .slice (some ⟨p, 0, none⟩) (m + 1) (m + 1) := Ez.dep 3 72 (by kernel_rfl) rfl
                        have e73 : Az.eval (.tmp 73) = .int .i64 (kk : Int) := Ez.dep 4 73 (by kernel_rfl) rfl
                        exact wpo_val (v := .pointer (some ⟨p, kk, none⟩)) (run_index e72 e73 (IP.out wy)) (k _ _ rfl hB)
                      | 6, ho =>
                        obtain rfl := Option.some.inj ho
                        intro Az Lz vz wy Kz Ez hB k
                        have e74 : Az.eval (.tmp 74) = .pointer (some ⟨p, kk, none⟩) := Ez.dep 5 74 (by kernel_rfl) rfl
                        exact wpo_val (v := .int .i64 xk) (run_load e74 (by simp [go_sem, AX.out wy hB.1])) (k _ _ rfl hB)
                      | 7, ho =>
                        obtain rfl := Option.some.inj ho
                        intro Az Lz vz wy Kz Ez hB k
                        have e14 : Az.eval (.tmp 14) = .pointer (some ⟨h, 0, none⟩) := Ez.out 14 (by kernel_rfl)
                        have c1_0 := hB.2.cell 1 0 rfl rfl
                        exact wpo_val (v := .slice (some ⟨p, 0, none⟩) (m + 1) (m + 1)) (run_load e14 (by simp [go_sem, c1_0])) (k _ _ rfl hB)
                      | 8, ho =>
                        obtain rfl := Option.some.inj ho
                        intro Az Lz vz wy Kz Ez hB k
                        have e17 : Az.eval (.tmp 17) = .int .i64 (kk : Int) := Ez.out 17 (by kernel_rfl)
                        exact wpo_val (v := .int .i64 (kk : Int)) (run_move e17) (k _ _ rfl hB)
                      | 9, ho =>
                        obtain rfl := Option.some.inj ho
                        intro Az Lz vz wy Kz Ez hB k
                        have e77 : Az.eval (.tmp 77) = .int .i64 (kk : Int) := Ez.dep 8 77 (by kernel_rfl) rfl
                        exact wpo_val (v := .int .i64 ((kk : Int) - 1)) (run_bin e77 rfl (by simp [go_sem]) (by simp [go_sem, IntKind.wrap_i64]; try omega)) (k _ _ rfl hB)
                      | 10, ho =>
                        obtain rfl := Option.some.inj ho
                        intro Az Lz vz wy Kz Ez hB k
                        have e76 : Az.eval (.tmp 76) = .slice (some ⟨p, 0, none⟩) (m + 1) (m + 1) := Ez.dep 7 76 (by kernel_rfl) rfl
                        have e78 : Az.eval (.tmp 78) = .int .i64 ((kk : Int) - 1) := Ez.dep 9 78 (by kernel_rfl) rfl
                        exact wpo_val (v := .pointer (some ⟨p, kk - 1, none⟩)) (run_index e76 e78 (IPM.out wy)) (k _ _ rfl hB)
                      | 11, ho =>
                        obtain rfl := Option.some.inj ho
                        intro Az Lz vz wy Kz Ez hB k
                        have e79 : Az.eval (.tmp 79) = .pointer (some ⟨p, kk - 1, none⟩) := Ez.dep 10 79 (by kernel_rfl) rfl
                        exact wpo_val (v := .int .i64 xp) (run_load e79 (by simp [go_sem, AP.out wy hB.1])) (k _ _ rfl hB)
                      | 12, ho =>
                        obtain rfl := Option.some.inj ho
                        intro Az Lz vz wy Kz Ez hB k
                        have e7 : Az.eval (.tmp 7) = .pointer (some ⟨b, 0, none⟩) := Ez.out 7 (by kernel_rfl)
                        have c6_0 := hB.2.cell 6 0 rfl rfl
                        exact wpo_val (v := .slice (some ⟨g, o, none⟩) n c) (run_load e7 (by simp [go_sem, c6_0])) (k _ _ rfl hB)
                      | 13, ho =>
                        obtain rfl := Option.some.inj ho
                        intro Az Lz vz wy Kz Ez hB k
                        have e12 : Az.eval (.tmp 12) = .pointer (some ⟨b12, 0, none⟩) := Ez.out 12 (by kernel_rfl)
                        exact wpo_val (v := .pointer (some ⟨b12, 0, none⟩)) (run_field e12 (by simp [go_sem])) (k _ _ rfl hB)
                      | 14, ho =>
                        obtain rfl := Option.some.inj ho
                        intro Az Lz vz wy Kz Ez hB k
                        have e82 : Az.eval (.tmp 82) = .pointer (some ⟨b12, 0, none⟩) := Ez.dep 13 82 (by kernel_rfl) rfl
                        have c3_0 := hB.2.cell 3 0 rfl rfl
                        exact wpo_val (v := .int .i64 (f : Int)) (run_load e82 (by simp [go_sem, c3_0])) (k _ _ rfl hB)
                      | 15, ho =>
                        obtain rfl := Option.some.inj ho
                        intro Az Lz vz wy Kz Ez hB k
                        have e17 : Az.eval (.tmp 17) = .int .i64 (kk : Int) := Ez.out 17 (by kernel_rfl)
                        exact wpo_val (v := .int .i64 (kk : Int)) (run_move e17) (k _ _ rfl hB)
                      | 16, ho =>
                        obtain rfl := Option.some.inj ho
                        intro Az Lz vz wy Kz Ez hB k
                        have e83 : Az.eval (.tmp 83) = .int .i64 (f : Int) := Ez.dep 14 83 (by kernel_rfl) rfl
                        have e84 : Az.eval (.tmp 84) = .int .i64 (kk : Int) := Ez.dep 15 84 (by kernel_rfl) rfl
                        exact wpo_val (v := .int .i64 ((f : Int) + kk)) (run_bin e83 e84 (by simp [go_sem]) (by simp [go_sem, IntKind.wrap_i64]; try omega)) (k _ _ rfl hB)
                      | 17, ho =>
                        obtain rfl := Option.some.inj ho
                        intro Az Lz vz wy Kz Ez hB k
                        have e85 : Az.eval (.tmp 85) = .int .i64 ((f : Int) + kk) := Ez.dep 16 85 (by kernel_rfl) rfl
                        exact wpo_val (v := .int .i64 ((f : Int) + kk - 1)) (run_bin e85 rfl (by simp [go_sem]) (by simp [go_sem, IntKind.wrap_i64]; try omega)) (k _ _ rfl hB)
                      | 18, ho =>
                        obtain rfl := Option.some.inj ho
                        intro Az Lz vz wy Kz Ez hB k
                        have e81 : Az.eval (.tmp 81) = .slice (some ⟨g, o, none⟩) n c := Ez.dep 12 81 (by kernel_rfl) rfl
                        have e86 : Az.eval (.tmp 86) = .int .i64 ((f : Int) + kk - 1) := Ez.dep 17 86 (by kernel_rfl) rfl
                        exact wpo_val (v := .pointer (some ⟨g, o + (f + kk - 1) * 4, none⟩)) (run_index e81 e86 (IG.out wy)) (k _ _ rfl hB)
                      | 19, ho =>
                        obtain rfl := Option.some.inj ho
                        intro Az Lz vz wy Kz Ez hB k
                        have e87 : Az.eval (.tmp 87) = .pointer (some ⟨g, o + (f + kk - 1) * 4, none⟩) := Ez.dep 18 87 (by kernel_rfl) rfl
                        exact wpo_val (v := .pointer (some ⟨g, o + (f + kk - 1) * 4, none⟩)) (run_field e87 (by simp [go_sem])) (k _ _ rfl hB)
                      | 20, ho =>
                        obtain rfl := Option.some.inj ho
                        intro Az Lz vz wy Kz Ez hB k
                        have e88 : Az.eval (.tmp 88) = .pointer (some ⟨g, o + (f + kk - 1) * 4, none⟩) := Ez.dep 19 88 (by kernel_rfl) rfl
                        exact wpo_val (v := .int .i64 wI) (run_load e88 (by simp [go_sem, AW.out wy hB.1])) (k _ _ rfl hB)
                      | 21, ho =>
                        obtain rfl := Option.some.inj ho
                        intro Az Lz vz wy Kz Ez hB k
                        have e80 : Az.eval (.tmp 80) = .int .i64 xp := Ez.dep 11 80 (by kernel_rfl) rfl
                        have e89 : Az.eval (.tmp 89) = .int .i64 wI := Ez.dep 20 89 (by kernel_rfl) rfl
                        exact wpo_val (v := .int .i64 (xp + wI)) (run_bin e80 e89 (by simp [go_sem]) (by simp [go_sem, IntKind.wrap_i64]; try omega)) (k _ _ rfl hB)
                      | 22, ho =>
                        obtain rfl := Option.some.inj ho
                        intro Az Lz vz wy Kz Ez hB k
                        have e7 : Az.eval (.tmp 7) = .pointer (some ⟨b, 0, none⟩) := Ez.out 7 (by kernel_rfl)
                        have c6_0 := hB.2.cell 6 0 rfl rfl
                        exact wpo_val (v := .slice (some ⟨g, o, none⟩) n c) (run_load e7 (by simp [go_sem, c6_0])) (k _ _ rfl hB)
                      | 23, ho =>
                        obtain rfl := Option.some.inj ho
                        intro Az Lz vz wy Kz Ez hB k
                        have e12 : Az.eval (.tmp 12) = .pointer (some ⟨b12, 0, none⟩) := Ez.out 12 (by kernel_rfl)
                        exact wpo_val (v := .pointer (some ⟨b12, 0, none⟩)) (run_field e12 (by simp [go_sem])) (k _ _ rfl hB)
                      | 24, ho =>
                        obtain rfl := Option.some.inj ho
                        intro Az Lz vz wy Kz Ez hB k
                        have e92 : Az.eval (.tmp 92) = .pointer (some ⟨b12, 0, none⟩) := Ez.dep 23 92 (by kernel_rfl) rfl
                        have c3_0 := hB.2.cell 3 0 rfl rfl
                        exact wpo_val (v := .int .i64 (f : Int)) (run_load e92 (by simp [go_sem, c3_0])) (k _ _ rfl hB)
                      | 25, ho =>
                        obtain rfl := Option.some.inj ho
                        intro Az Lz vz wy Kz Ez hB k
                        have e17 : Az.eval (.tmp 17) = .int .i64 (kk : Int) := Ez.out 17 (by kernel_rfl)
                        exact wpo_val (v := .int .i64 (kk : Int)) (run_move e17) (k _ _ rfl hB)
                      | 26, ho =>
                        obtain rfl := Option.some.inj ho
                        intro Az Lz vz wy Kz Ez hB k
                        have e93 : Az.eval (.tmp 93) = .int .i64 (f : Int) := Ez.dep 24 93 (by kernel_rfl) rfl
                        have e94 : Az.eval (.tmp 94) = .int .i64 (kk : Int) := Ez.dep 25 94 (by kernel_rfl) rfl
                        exact wpo_val (v := .int .i64 ((f : Int) + kk)) (run_bin e93 e94 (by simp [go_sem]) (by simp [go_sem, IntKind.wrap_i64]; try omega)) (k _ _ rfl hB)
                      | 27, ho =>
                        obtain rfl := Option.some.inj ho
                        intro Az Lz vz wy Kz Ez hB k
                        have e95 : Az.eval (.tmp 95) = .int .i64 ((f : Int) + kk) := Ez.dep 26 95 (by kernel_rfl) rfl
                        exact wpo_val (v := .int .i64 ((f : Int) + kk - 1)) (run_bin e95 rfl (by simp [go_sem]) (by simp [go_sem, IntKind.wrap_i64]; try omega)) (k _ _ rfl hB)
                      | 28, ho =>
                        obtain rfl := Option.some.inj ho
                        intro Az Lz vz wy Kz Ez hB k
                        have e91 : Az.eval (.tmp 91) = .slice (some ⟨g, o, none⟩) n c := Ez.dep 22 91 (by kernel_rfl) rfl
                        have e96 : Az.eval (.tmp 96) = .int .i64 ((f : Int) + kk - 1) := Ez.dep 27 96 (by kernel_rfl) rfl
                        exact wpo_val (v := .pointer (some ⟨g, o + (f + kk - 1) * 4, none⟩)) (run_index e91 e96 (IG.out wy)) (k _ _ rfl hB)
                      | 29, ho =>
                        obtain rfl := Option.some.inj ho
                        intro Az Lz vz wy Kz Ez hB k
                        have e97 : Az.eval (.tmp 97) = .pointer (some ⟨g, o + (f + kk - 1) * 4, none⟩) := Ez.dep 28 97 (by kernel_rfl) rfl
                        exact wpo_val (v := .pointer (some ⟨g, o + (f + kk - 1) * 4 + 1, none⟩)) (run_field e97 (by simp [go_sem])) (k _ _ rfl hB)
                      | 30, ho =>
                        obtain rfl := Option.some.inj ho
                        intro Az Lz vz wy Kz Ez hB k
                        have e98 : Az.eval (.tmp 98) = .pointer (some ⟨g, o + (f + kk - 1) * 4 + 1, none⟩) := Ez.dep 29 98 (by kernel_rfl) rfl
                        exact wpo_val (v := .int .i64 sI) (run_load e98 (by simp [go_sem, AS2.out wy hB.1])) (k _ _ rfl hB)
                      | 31, ho =>
                        obtain rfl := Option.some.inj ho
                        intro Az Lz vz wy Kz Ez hB k
                        have e90 : Az.eval (.tmp 90) = .int .i64 (xp + wI) := Ez.dep 21 90 (by kernel_rfl) rfl
                        have e99 : Az.eval (.tmp 99) = .int .i64 sI := Ez.dep 30 99 (by kernel_rfl) rfl
                        exact wpo_val (v := .int .i64 (xp + wI + sI)) (run_bin e90 e99 (by simp [go_sem]) (by simp [go_sem, IntKind.wrap_i64]; try omega)) (k _ _ rfl hB)
                      | 32, ho =>
                        obtain rfl := Option.some.inj ho
                        intro Az Lz vz wy Kz Ez hB k
                        have e75 : Az.eval (.tmp 75) = .int .i64 xk := Ez.dep 6 75 (by kernel_rfl) rfl
                        have e100 : Az.eval (.tmp 100) = .int .i64 (xp + wI + sI) := Ez.dep 31 100 (by kernel_rfl) rfl
                        exact wpo_val (v := .bool false) (run_bin e75 e100 (by simp [go_sem]) (by simp [go_sem, y2])) (k _ _ rfl hB)
                      | 33, ho =>
                        obtain rfl := Option.some.inj ho
                        intro Az Lz vz wy Kz Ez hB k
                        have e71 : Az.eval (.tmp 71) = .bool true := Ez.dep 2 71 (by kernel_rfl) rfl
                        have e101 : Az.eval (.tmp 101) = .bool false := Ez.dep 32 101 (by kernel_rfl) rfl
                        exact wpo_val (v := .bool false) (run_pickT e71 e101) (k _ _ rfl hB)
                      | 34, ho =>
                        obtain rfl := Option.some.inj ho
                        intro Az Lz vz wy Kz Ez hB k
                        have e102 : Az.eval (.tmp 102) = .bool false := Ez.dep 33 102 (by kernel_rfl) rfl
                        exact wpo_val (v := .bool false) (run_move e102) (k _ _ rfl hB)
                      | 35, ho =>
                        obtain rfl := Option.some.inj ho
                        intro Az Lz vz wy Kz Ez hB k
                        have e15 : Az.eval (.tmp 15) = .pointer (some ⟨h + 1, 0, none⟩) := Ez.out 15 (by kernel_rfl)
                        have c0_0 := hB.2.cell 0 0 rfl rfl
                        exact wpo_val (v := .slice (some ⟨q, 0, none⟩) (m + 1) (m + 1)) (run_load e15 (by simp [go_sem, c0_0])) (k _ _ rfl hB)
                      | 36, ho =>
                        obtain rfl := Option.some.inj ho
                        intro Az Lz vz wy Kz Ez hB k
                        have e17 : Az.eval (.tmp 17) = .int .i64 (kk : Int) := Ez.out 17 (by kernel_rfl)
                        exact wpo_val (v := .int .i64 (kk : Int)) (run_move e17) (k _ _ rfl hB)
                      | 37, ho =>
                        obtain rfl := Option.some.inj ho
                        intro Az Lz vz wy Kz Ez hB k
                        have e104 : Az.eval (.tmp 104) = .slice (some ⟨q, 0, none⟩) (m + 1) (m + 1) := Ez.dep 35 104 (by kernel_rfl) rfl
                        have e105 : Az.eval (.tmp 105) = .int .i64 (kk : Int) := Ez.dep 36 105 (by kernel_rfl) rfl
                        exact wpo_val (v := .pointer (some ⟨q, kk, none⟩)) (run_index e104 e105 (IQ.out wy)) (k _ _ rfl hB)
                      | 38, ho =>
                        obtain rfl := Option.some.inj ho
                        intro Az Lz vz wy Kz Ez hB k
                        have e106 : Az.eval (.tmp 106) = .pointer (some ⟨q, kk, none⟩) := Ez.dep 37 106 (by kernel_rfl) rfl
                        exact wpo_val (v := .int .i64 yk) (run_load e106 (by simp [go_sem, AY.out wy hB.1])) (k _ _ rfl hB)
                      | 39, ho =>
                        obtain rfl := Option.some.inj ho
                        intro Az Lz vz wy Kz Ez hB k
                        have e14 : Az.eval (.tmp 14) = .pointer (some ⟨h, 0, none⟩) := Ez.out 14 (by kernel_rfl)
                        have c1_0 := hB.2.cell 1 0 rfl rfl
                        exact wpo_val (v := .slice (some ⟨p, 0, none⟩) (m + 1) (m + 1)) (run_load e14 (by simp [go_sem, c1_0])) (k _ _ rfl hB)
                      | 40, ho =>
                        obtain rfl := Option.some.inj ho
                        intro Az Lz vz wy Kz Ez hB k
                        have e17 : Az.eval (.tmp 17) = .int .i64 (kk : Int) := Ez.out 17 (by kernel_rfl)
                        exact wpo_val (v := .int .i64 (kk : Int)) (run_move e17) (k _ _ rfl hB)
                      | 41, ho =>
                        obtain rfl := Option.some.inj ho
                        intro Az Lz vz wy Kz Ez hB k
                        have e108 : Az.eval (.tmp 108) = .slice (some ⟨p, 0, none⟩) (m + 1) (m + 1) := Ez.dep 39 108 (by kernel_rfl) rfl
                        have e109 : Az.eval (.tmp 109) = .int .i64 (kk : Int) := Ez.dep 40 109 (by kernel_rfl) rfl
                        exact wpo_val (v := .pointer (some ⟨p, kk, none⟩)) (run_index e108 e109 (IP.out wy)) (k _ _ rfl hB)
                      | 42, ho =>
                        obtain rfl := Option.some.inj ho
                        intro Az Lz vz wy Kz Ez hB k
                        have e110 : Az.eval (.tmp 110) = .pointer (some ⟨p, kk, none⟩) := Ez.dep 41 110 (by kernel_rfl) rfl
                        exact wpo_val (v := .int .i64 xk) (run_load e110 (by simp [go_sem, AX.out wy hB.1])) (k _ _ rfl hB)
                      | 43, ho =>
                        obtain rfl := Option.some.inj ho
                        intro Az Lz vz wy Kz Ez hB k
                        have e107 : Az.eval (.tmp 107) = .int .i64 yk := Ez.dep 38 107 (by kernel_rfl) rfl
                        have e111 : Az.eval (.tmp 111) = .int .i64 xk := Ez.dep 42 111 (by kernel_rfl) rfl
                        exact wpo_val (v := .bool false) (run_bin e107 e111 (by simp [go_sem]) (by simp [go_sem, y1])) (k _ _ rfl hB)
                      | 44, ho =>
                        obtain rfl := Option.some.inj ho
                        intro Az Lz vz wy Kz Ez hB k
                        have e103 : Az.eval (.tmp 103) = .bool false := Ez.dep 34 103 (by kernel_rfl) rfl
                        have e112 : Az.eval (.tmp 112) = .bool false := Ez.dep 43 112 (by kernel_rfl) rfl
                        exact wpo_val (v := .bool false) (run_pickF e103 e112) (k _ _ rfl hB)
                      | n + 45, ho => simp at ho
                    · obtain ⟨hk, hT⟩ := hB
                      have KB := Lib.hid hk
                      have KT := Lib.hid hT
                      clear hk hT hL
                      simp only [puts2, mix, Act.put, List.setIfInBounds_toArray, List.set_cons_zero, List.set_cons_succ, Nat.zero_add, Nat.reduceAdd, List.getElem?_cons_zero, List.getElem?_cons_succ]

                      go_wp2_with fail
                      go_roundw
                      case rel => exact ⟨kk + 1, _, rfl, by simp, by omega, KB, KT⟩
                      case measure => simp [intOf]; omega
                  · have K0 := Lib.hid (show kk = 0 by omega)
                    clear hxk hyk
                    go_wp2_with fail
                    refine wp_region_vals [some (.int .i64 (kk : Int)), some (.bool false), some (.bool false), some (undef), some (undef), some (undef), some (undef), some (undef), some (undef), some (undef), some (undef), some (undef), some (undef), some (undef), some (undef), some (undef), some (undef), some (undef), some (undef), some (undef), some (undef), some (undef), some (undef), some (undef), some (undef), some (undef), some (undef), some (undef), some (undef), some (undef), some (undef), some (undef), some (undef), some (.bool false), some (.bool false), some (.slice (some ⟨q, 0, none⟩) (m + 1) (m + 1)), some (.int .i64 (kk : Int)), some (.pointer (some ⟨q, kk, none⟩)), some (.int .i64 yk), some (.slice (some ⟨p, 0, none⟩) (m + 1) (m + 1)), some (.int .i64 (kk : Int)), some (.pointer (some ⟨p, kk, none⟩)), some (.int .i64 xk), some (.bool false), some (.bool false)] (fun Lz _ wy => Below w6.heap.size w6 wy ∧ Tab wy [(h + 1, [.slice (some ⟨q, 0, none⟩) (m + 1) (m + 1)]), (h, [.slice (some ⟨p, 0, none⟩) (m + 1) (m + 1)]), (bx, [.int .i64 (tx : Int)]), (b12, [.int .i64 (f : Int), .int .i64 (t : Int), .int .i64 W, .int .i64 H]), (b + 2, [.int .i64 av]), (b + 1, [.slice (some ⟨g2, o2, none⟩) gn gc]), (b, [.slice (some ⟨g, o, none⟩) n c]), (b5, [.int .u8 mo])])
                      [some 69, some 70, some 71, some 72, some 73, some 74, some 75, some 76, some 77, some 78, some 79, some 80, some 81, some 82, some 83, some 84, some 85, some 86, some 87, some 88, some 89, some 90, some 91, some 92, some 93, some 94, some 95, some 96, some 97, some 98, some 99, some 100, some 101, some 102, some 103, some 104, some 105, some 106, some 107, some 108, some 109, some 110, some 111, some 112, some 113] (by kernel_rfl) (by kernel_rfl) (by kernel_rfl) (by kernel_rfl) (by kernel_rfl) (by kernel_rfl) ⟨KB.out.drew, KT.out.later ((Below.refl _ _).drew)⟩ (fun i o ho => ?_) (fun Lz vz wz hL hB => ?_)
                    · match i, ho with
                      | 0, ho =>
                        obtain rfl := Option.some.inj ho
                        intro Az Lz vz wy Kz Ez hB k
                        have e17 : Az.eval (.tmp 17) = .int .i64 (kk : Int) := Ez.out 17 (by kernel_rfl)
                        exact wpo_val (v := .int .i64 (kk : Int)) (run_move e17) (k _ _ rfl hB)
                      | 1, ho =>
                        obtain rfl := Option.some.inj ho
                        intro Az Lz vz wy Kz Ez hB k
                        have e69 : Az.eval (.tmp 69) = .int .i64 (kk : Int) := Ez.dep 0 69 (by kernel_rfl) rfl
                        exact wpo_val (v := .bool false) (run_bin e69 rfl (by simp [go_sem]) (by simp [go_sem]; have := K0.out; omega)) (k _ _ rfl hB)
                      | 2, ho =>
                        obtain rfl := Option.some.inj ho
                        intro Az Lz vz wy Kz Ez hB k
                        have e70 : Az.eval (.tmp 70) = .bool false := Ez.dep 1 70 (by kernel_rfl) rfl
                        exact wpo_val (v := .bool false) (run_move e70) (k _ _ rfl hB)
                      | 3, ho =>
                        obtain rfl := Option.some.inj ho
                        exact ⟨rfl, fun Lz vz wy h => h⟩
                      | 4, ho =>
                        obtain rfl := Option.some.inj ho
                        exact ⟨rfl, fun Lz vz wy h => h⟩
                      | 5, ho =>
                        obtain rfl := Option.some.inj ho
                        exact ⟨rfl, fun Lz vz wy h => h⟩
                      | 6, ho =>
                        obtain rfl := Option.some.inj ho
                        exact ⟨rfl, fun Lz vz wy h => h⟩
                      | 7, ho =>
                        obtain rfl := Option.some.inj ho
                        exact ⟨rfl, fun Lz vz wy h => h⟩
                      | 8, ho =>
                        obtain rfl := Option.some.inj ho
                        exact ⟨rfl, fun Lz vz wy h => h⟩
                      | 9, ho =>
                        obtain rfl := Option.some.inj ho
                        exact ⟨rfl, fun Lz vz wy h => h⟩
                      | 10, ho =>
                        obtain rfl := Option.some.inj ho
                        exact ⟨rfl, fun Lz vz wy h => h⟩
                      | 11, ho =>
                        obtain rfl := Option.some.inj ho
                        exact ⟨rfl, fun Lz vz wy h => h⟩
                      | 12, ho =>
                        obtain rfl := Option.some.inj ho
                        exact ⟨rfl, fun Lz vz wy h => h⟩
                      | 13, ho =>
                        obtain rfl := Option.some.inj ho
                        exact ⟨rfl, fun Lz vz wy h => h⟩
                      | 14, ho =>
                        obtain rfl := Option.some.inj ho
                        exact ⟨rfl, fun Lz vz wy h => h⟩
                      | 15, ho =>
                        obtain rfl := Option.some.inj ho
                        exact ⟨rfl, fun Lz vz wy h => h⟩
                      | 16, ho =>
                        obtain rfl := Option.some.inj ho
                        exact ⟨rfl, fun Lz vz wy h => h⟩
                      | 17, ho =>
                        obtain rfl := Option.some.inj ho
                        exact ⟨rfl, fun Lz vz wy h => h⟩
                      | 18, ho =>
                        obtain rfl := Option.some.inj ho
                        exact ⟨rfl, fun Lz vz wy h => h⟩
                      | 19, ho =>
                        obtain rfl := Option.some.inj ho
                        exact ⟨rfl, fun Lz vz wy h => h⟩
                      | 20, ho =>
                        obtain rfl := Option.some.inj ho
                        exact ⟨rfl, fun Lz vz wy h => h⟩
                      | 21, ho =>
                        obtain rfl := Option.some.inj ho
                        exact ⟨rfl, fun Lz vz wy h => h⟩
                      | 22, ho =>
                        obtain rfl := Option.some.inj ho
                        exact ⟨rfl, fun Lz vz wy h => h⟩
                      | 23, ho =>
                        obtain rfl := Option.some.inj ho
                        exact ⟨rfl, fun Lz vz wy h => h⟩
                      | 24, ho =>
                        obtain rfl := Option.some.inj ho
                        exact ⟨rfl, fun Lz vz wy h => h⟩
                      | 25, ho =>
                        obtain rfl := Option.some.inj ho
                        exact ⟨rfl, fun Lz vz wy h => h⟩
                      | 26, ho =>
                        obtain rfl := Option.some.inj ho
                        exact ⟨rfl, fun Lz vz wy h => h⟩
                      | 27, ho =>
                        obtain rfl := Option.some.inj ho
                        exact ⟨rfl, fun Lz vz wy h => h⟩
                      | 28, ho =>
                        obtain rfl := Option.some.inj ho
                        exact ⟨rfl, fun Lz vz wy h => h⟩
                      | 29, ho =>
                        obtain rfl := Option.some.inj ho
                        exact ⟨rfl, fun Lz vz wy h => h⟩
                      | 30, ho =>
                        obtain rfl := Option.some.inj ho
                        exact ⟨rfl, fun Lz vz wy h => h⟩
                      | 31, ho =>
                        obtain rfl := Option.some.inj ho
                        exact ⟨rfl, fun Lz vz wy h => h⟩
                      | 32, ho =>
                        obtain rfl := Option.some.inj ho
                        exact ⟨rfl, fun Lz vz wy h => h⟩
                      | 33, ho =>
                        obtain rfl := Option.some.inj ho
                        intro Az Lz vz wy Kz Ez hB k
                        have e71 : Az.eval (.tmp 71) = .bool false := Ez.dep 2 71 (by kernel_rfl) rfl
                        have e101 : Az.eval (.tmp 101) = undef := Ez.dep 32 101 (by kernel_rfl) rfl
                        exact wpo_val (v := .bool false) (run_pickF e71 rfl) (k _ _ rfl hB)
                      | 34, ho =>
                        obtain rfl := Option.some.inj ho
                        intro Az Lz vz wy Kz Ez hB k
                        have e102 : Az.eval (.tmp 102) = .bool false := Ez.dep 33 102 (by kernel_rfl) rfl
                        exact wpo_val (v := .bool false) (run_move e102) (k _ _ rfl hB)
                      | 35, ho =>
                        obtain rfl := Option.some.inj ho
                        intro Az Lz vz wy Kz Ez hB k
                        have e15 : Az.eval (.tmp 15) = .pointer (some ⟨h + 1, 0, none⟩) := Ez.out 15 (by kernel_rfl)
                        have c0_0 := hB.2.cell 0 0 rfl rfl
                        exact wpo_val (v := .slice (some ⟨q, 0, none⟩) (m + 1) (m + 1)) (run_load e15 (by simp [go_sem, c0_0])) (k _ _ rfl hB)
                      | 36, ho =>
                        obtain rfl := Option.some.inj ho
                        intro Az Lz vz wy Kz Ez hB k
                        have e17 : Az.eval (.tmp 17) = .int .i64 (kk : Int) := Ez.out 17 (by kernel_rfl)
                        exact wpo_val (v := .int .i64 (kk : Int)) (run_move e17) (k _ _ rfl hB)
                      | 37, ho =>
                        obtain rfl := Option.some.inj ho
                        intro Az Lz vz wy Kz Ez hB k
                        have e104 : Az.eval (.tmp 104) = .slice (some ⟨q, 0, none⟩) (m + 1) (m + 1) := Ez.dep 35 104 (by kernel_rfl) rfl
                        have e105 : Az.eval (.tmp 105) = .int .i64 (kk : Int) := Ez.dep 36 105 (by kernel_rfl) rfl
                        exact wpo_val (v := .pointer (some ⟨q, kk, none⟩)) (run_index e104 e105 (IQ.out wy)) (k _ _ rfl hB)
                      | 38, ho =>
                        obtain rfl := Option.some.inj ho
                        intro Az Lz vz wy Kz Ez hB k
                        have e106 : Az.eval (.tmp 106) = .pointer (some ⟨q, kk, none⟩) := Ez.dep 37 106 (by kernel_rfl) rfl
                        exact wpo_val (v := .int .i64 yk) (run_load e106 (by simp [go_sem, AY.out wy hB.1])) (k _ _ rfl hB)
                      | 39, ho =>
                        obtain rfl := Option.some.inj ho
                        intro Az Lz vz wy Kz Ez hB k
                        have e14 : Az.eval (.tmp 14) = .pointer (some ⟨h, 0, none⟩) := Ez.out 14 (by kernel_rfl)
                        have c1_0 := hB.2.cell 1 0 rfl rfl
                        exact wpo_val (v := .slice (some ⟨p, 0, none⟩) (m + 1) (m + 1)) (run_load e14 (by simp [go_sem, c1_0])) (k _ _ rfl hB)
                      | 40, ho =>
                        obtain rfl := Option.some.inj ho
                        intro Az Lz vz wy Kz Ez hB k
                        have e17 : Az.eval (.tmp 17) = .int .i64 (kk : Int) := Ez.out 17 (by kernel_rfl)
                        exact wpo_val (v := .int .i64 (kk : Int)) (run_move e17) (k _ _ rfl hB)
                      | 41, ho =>
                        obtain rfl := Option.some.inj ho
                        intro Az Lz vz wy Kz Ez hB k
                        have e108 : Az.eval (.tmp 108) = .slice (some ⟨p, 0, none⟩) (m + 1) (m + 1) := Ez.dep 39 108 (by kernel_rfl) rfl
                        have e109 : Az.eval (.tmp 109) = .int .i64 (kk : Int) := Ez.dep 40 109 (by kernel_rfl) rfl
                        exact wpo_val (v := .pointer (some ⟨p, kk, none⟩)) (run_index e108 e109 (IP.out wy)) (k _ _ rfl hB)
                      | 42, ho =>
                        obtain rfl := Option.some.inj ho
                        intro Az Lz vz wy Kz Ez hB k
                        have e110 : Az.eval (.tmp 110) = .pointer (some ⟨p, kk, none⟩) := Ez.dep 41 110 (by kernel_rfl) rfl
                        exact wpo_val (v := .int .i64 xk) (run_load e110 (by simp [go_sem, AX.out wy hB.1])) (k _ _ rfl hB)
                      | 43, ho =>
                        obtain rfl := Option.some.inj ho
                        intro Az Lz vz wy Kz Ez hB k
                        have e107 : Az.eval (.tmp 107) = .int .i64 yk := Ez.dep 38 107 (by kernel_rfl) rfl
                        have e111 : Az.eval (.tmp 111) = .int .i64 xk := Ez.dep 42 111 (by kernel_rfl) rfl
                        exact wpo_val (v := .bool false) (run_bin e107 e111 (by simp [go_sem]) (by simp [go_sem, y1])) (k _ _ rfl hB)
                      | 44, ho =>
                        obtain rfl := Option.some.inj ho
                        intro Az Lz vz wy Kz Ez hB k
                        have e103 : Az.eval (.tmp 103) = .bool false := Ez.dep 34 103 (by kernel_rfl) rfl
                        have e112 : Az.eval (.tmp 112) = .bool false := Ez.dep 43 112 (by kernel_rfl) rfl
                        exact wpo_val (v := .bool false) (run_pickF e103 e112) (k _ _ rfl hB)
                      | n + 45, ho => simp at ho
                    · obtain ⟨hk, hT⟩ := hB
                      have KB := Lib.hid hk
                      have KT := Lib.hid hT
                      clear hk hT hL
                      simp only [puts2, mix, Act.put, List.setIfInBounds_toArray, List.set_cons_zero, List.set_cons_succ, Nat.zero_add, Nat.reduceAdd, List.getElem?_cons_zero, List.getElem?_cons_succ]

                      go_wp2_with fail
                      go_roundw
                      case rel => exact ⟨kk + 1, _, rfl, by simp, by omega, KB, KT⟩
                      case measure => simp [intOf]; omega
                · have lk' : ¬ (kk : Int) < (m : Int) + 1 := by omega
                  go_wp2_with fail
                  go_meet
                  exact ⟨_, rfl, KB, KT⟩
            case rest =>
              obtain ⟨wv, rfl, KBv, KTv⟩ := hcut
              have fm40 : f + m + 1 ≤ 40 := by have := HM.out; omega
              clear KB KT c14
              have KB := KBv
              have KT := KTv
              clear KBv KTv OY JJ JD1
              obtain ⟨xm, hxm⟩ : ∃ x, ov l f m a0 d j m = x := ⟨_, rfl⟩
              obtain ⟨wm, _, w0, w1', _, _, hwm, _, CI⟩ := ITM.out (f + m) (by have := HM.out; omega)
              have AX := Lib.hid (OX.out m (Nat.le_refl _))
              rw [hxm] at AX
              have AW : Hid (∀ wy, Below w6.heap.size w6 wy → wy.cell? ⟨g, o + (f + m) * 4, none⟩ = some (.int .i64 wm)) := Lib.hid (fun wy hb => (CI wy hb).1)
              have IP := Lib.hid (IPG.out p m (Nat.le_refl _))
              have IG : Hid (∀ wy : World, (Instr.indexAt 25 (.slice (some ⟨g, o, none⟩) n c) (.int .i64 ((t : Int) - 1))).run Try.prog wy = .ok (.pointer (some ⟨g, o + (f + m) * 4, none⟩)) wy) := Lib.hid (fun wy => by
                rw [show ((t : Int) - 1) = ((f + m : Nat) : Int) by have := HM.out; omega]; exact IGG.out (f + m) (by have := HM.out; omega) wy)
              obtain ⟨E, hE⟩ : ∃ E, xm + wm = E := ⟨_, rfl⟩
              have EE : Hid (E = a0 + W + gF d m j m) := Lib.hid (by
                have := ov_end l f m a0 d j
                rw [hxm, hwm, HWd.out] at this; omega)
              have RM := ov_rng HS.out (f := f) (m := m) (a0 := a0) (d := d) (j := j) IR.out.1 IR.out.2.1 JD.out DR.out.1 (k := m) (Nat.le_refl _) (by have := HM.out; omega)
              rw [hxm] at RM
              obtain ⟨rm0, rm1⟩ := RM
              clear hxm hwm CI
              go_wp2_with fail
              refine wp_region_vals [some (.slice (some ⟨p, 0, none⟩) (m + 1) (m + 1)), some (.slice (some ⟨p, 0, none⟩) (m + 1) (m + 1)), some (.int .i64 ((m + 1 : Nat) : Int)), some (.int .i64 (m : Int)), some (.pointer (some ⟨p, m, none⟩)), some (.int .i64 xm), some (.slice (some ⟨g, o, none⟩) n c), some (.pointer (some ⟨b12, 1, none⟩)), some (.int .i64 (t : Int)), some (.int .i64 ((t : Int) - 1)), some (.pointer (some ⟨g, o + (f + m) * 4, none⟩)), some (.pointer (some ⟨g, o + (f + m) * 4, none⟩)), some (.int .i64 wm), some (.int .i64 E), some (.int .i64 E)] (fun Lz _ wy => Below w6.heap.size w6 wy ∧ Tab wy [(h + 1, [.slice (some ⟨q, 0, none⟩) (m + 1) (m + 1)]), (h, [.slice (some ⟨p, 0, none⟩) (m + 1) (m + 1)]), (bx, [.int .i64 (tx : Int)]), (b12, [.int .i64 (f : Int), .int .i64 (t : Int), .int .i64 W, .int .i64 H]), (b + 2, [.int .i64 av]), (b + 1, [.slice (some ⟨g2, o2, none⟩) gn gc]), (b, [.slice (some ⟨g, o, none⟩) n c]), (b5, [.int .u8 mo])])
                [some 114, some 115, some 116, some 117, some 118, some 119, some 120, some 121, some 122, some 123, some 124, some 125, some 126, some 127, some 18] (by kernel_rfl) (by kernel_rfl) (by kernel_rfl) (by kernel_rfl) (by kernel_rfl) (by kernel_rfl) ⟨KB.out.drew, KT.out.later ((Below.refl _ _).drew)⟩ (fun i o ho => ?_) (fun Lz vz wz hL hB => ?_)
              · match i, ho with
                | 0, ho =>
                  obtain rfl := Option.some.inj ho
                  intro Az Lz vz wy Kz Ez hB k
                  have e14 : Az.eval (.tmp 14) = .pointer (some ⟨h, 0, none⟩) := Ez.out 14 (by kernel_rfl)
                  have c1_0 := hB.2.cell 1 0 rfl rfl
                  exact wpo_val (v := .slice (some ⟨p, 0, none⟩) (m + 1) (m + 1)) (run_load e14 (by simp [go_sem, c1_0])) (k _ _ rfl hB)
                | 1, ho =>
                  obtain rfl := Option.some.inj ho
                  intro Az Lz vz wy Kz Ez hB k
                  have e14 : Az.eval (.tmp 14) = .pointer (some ⟨h, 0, none⟩) := Ez.out 14 (by kernel_rfl)
                  have c1_0 := hB.2.cell 1 0 rfl rfl
                  exact wpo_val (v := .slice (some ⟨p, 0, none⟩) (m + 1) (m + 1)) (run_load e14 (by simp [go_sem, c1_0])) (k _ _ rfl hB)
                | 2, ho =>
                  obtain rfl := Option.some.inj ho
                  intro Az Lz vz wy Kz Ez hB k
                  have e115 : Az.eval (.tmp 115) = .slice (some ⟨p, 0, none⟩) (m + 1) (m + 1) := Ez.dep 1 115 (by kernel_rfl) rfl
                  exact wpo_val (v := .int .i64 ((m + 1 : Nat) : Int)) (run_len2 e115) (k _ _ rfl hB)
                | 3, ho =>
                  obtain rfl := Option.some.inj ho
                  intro Az Lz vz wy Kz Ez hB k
                  have e116 : Az.eval (.tmp 116) = .int .i64 ((m + 1 : Nat) : Int) := Ez.dep 2 116 (by kernel_rfl) rfl
                  exact wpo_val (v := .int .i64 (m : Int)) (run_bin e116 rfl (by simp [go_sem]) (by simp [go_sem, IntKind.wrap_i64]; try omega)) (k _ _ rfl hB)
                | 4, ho =>
                  obtain rfl := Option.some.inj ho
                  intro Az Lz vz wy Kz Ez hB k
                  have e114 : Az.eval (.tmp 114) = .slice (some ⟨p, 0, none⟩) (m + 1) (m + 1) := Ez.dep 0 114 (by kernel_rfl) rfl
                  have e117 : Az.eval (.tmp 117) = .int .i64 (m : Int) := Ez.dep 3 117 (by kernel_rfl) rfl
                  exact wpo_val (v := .pointer (some ⟨p, m, none⟩)) (run_index e114 e117 (IP.out wy)) (k _ _ rfl hB)
                | 5, ho =>
                  obtain rfl := Option.some.inj ho
                  intro Az Lz vz wy Kz Ez hB k
                  have e118 : Az.eval (.tmp 118) = .pointer (some ⟨p, m, none⟩) := Ez.dep 4 118 (by kernel_rfl) rfl
                  exact wpo_val (v := .int .i64 xm) (run_load e118 (by simp [go_sem, AX.out wy hB.1])) (k _ _ rfl hB)
                | 6, ho =>
                  obtain rfl := Option.some.inj ho
                  intro Az Lz vz wy Kz Ez hB k
                  have e7 : Az.eval (.tmp 7) = .pointer (some ⟨b, 0, none⟩) := Ez.out 7 (by kernel_rfl)
                  have c6_0 := hB.2.cell 6 0 rfl rfl
                  exact wpo_val (v := .slice (some ⟨g, o, none⟩) n c) (run_load e7 (by simp [go_sem, c6_0])) (k _ _ rfl hB)
                | 7, ho =>
                  obtain rfl := Option.some.inj ho
                  intro Az Lz vz wy Kz Ez hB k
                  have e12 : Az.eval (.tmp 12) = .pointer (some ⟨b12, 0, none⟩) := Ez.out 12 (by kernel_rfl)
                  exact wpo_val (v := .pointer (some ⟨b12, 1, none⟩)) (run_field e12 (by simp [go_sem])) (k _ _ rfl hB)
                | 8, ho =>
                  obtain rfl := Option.some.inj ho
                  intro Az Lz vz wy Kz Ez hB k
                  have e121 : Az.eval (.tmp 121) = .pointer (some ⟨b12, 1, none⟩) := Ez.dep 7 121 (by kernel_rfl) rfl
                  have c3_1 := hB.2.cell 3 1 rfl rfl
                  exact wpo_val (v := .int .i64 (t : Int)) (run_load e121 (by simp [go_sem, c3_1])) (k _ _ rfl hB)
                | 9, ho =>
                  obtain rfl := Option.some.inj ho
                  intro Az Lz vz wy Kz Ez hB k
                  have e122 : Az.eval (.tmp 122) = .int .i64 (t : Int) := Ez.dep 8 122 (by kernel_rfl) rfl
                  exact wpo_val (v := .int .i64 ((t : Int) - 1)) (run_bin e122 rfl (by simp [go_sem]) (by simp [go_sem, IntKind.wrap_i64]; try omega)) (k _ _ rfl hB)
                | 10, ho =>
                  obtain rfl := Option.some.inj ho
                  intro Az Lz vz wy Kz Ez hB k
                  have e120 : Az.eval (.tmp 120) = .slice (some ⟨g, o, none⟩) n c := Ez.dep 6 120 (by kernel_rfl) rfl
                  have e123 : Az.eval (.tmp 123) = .int .i64 ((t : Int) - 1) := Ez.dep 9 123 (by kernel_rfl) rfl
                  exact wpo_val (v := .pointer (some ⟨g, o + (f + m) * 4, none⟩)) (run_index e120 e123 (IG.out wy)) (k _ _ rfl hB)
                | 11, ho =>
                  obtain rfl := Option.some.inj ho
                  intro Az Lz vz wy Kz Ez hB k
                  have e124 : Az.eval (.tmp 124) = .pointer (some ⟨g, o + (f + m) * 4, none⟩) := Ez.dep 10 124 (by kernel_rfl) rfl
                  exact wpo_val (v := .pointer (some ⟨g, o + (f + m) * 4, none⟩)) (run_field e124 (by simp [go_sem])) (k _ _ rfl hB)
                | 12, ho =>
                  obtain rfl := Option.some.inj ho
                  intro Az Lz vz wy Kz Ez hB k
                  have e125 : Az.eval (.tmp 125) = .pointer (some ⟨g, o + (f + m) * 4, none⟩) := Ez.dep 11 125 (by kernel_rfl) rfl
                  exact wpo_val (v := .int .i64 wm) (run_load e125 (by simp [go_sem, AW.out wy hB.1])) (k _ _ rfl hB)
                | 13, ho =>
                  obtain rfl := Option.some.inj ho
                  intro Az Lz vz wy Kz Ez hB k
                  have e119 : Az.eval (.tmp 119) = .int .i64 xm := Ez.dep 5 119 (by kernel_rfl) rfl
                  have e126 : Az.eval (.tmp 126) = .int .i64 wm := Ez.dep 12 126 (by kernel_rfl) rfl
                  exact wpo_val (v := .int .i64 E) (run_bin e119 e126 (by simp [go_sem]) (by simp [go_sem, IntKind.wrap_i64, hE]; try omega)) (k _ _ rfl hB)
                | 14, ho =>
                  obtain rfl := Option.some.inj ho
                  intro Az Lz vz wy Kz Ez hB k
                  have e127 : Az.eval (.tmp 127) = .int .i64 E := Ez.dep 13 127 (by kernel_rfl) rfl
                  exact wpo_val (v := .int .i64 E) (run_assign e127) (k _ _ rfl hB)
                | n + 15, ho => simp at ho
              · obtain ⟨hk, hT⟩ := hB
                have KB := Lib.hid hk
                have KT := Lib.hid hT
                clear hk hT hL
                simp only [puts2, mix, Act.put, List.setIfInBounds_toArray, List.set_cons_zero, List.set_cons_succ, Nat.zero_add, Nat.reduceAdd, List.getElem?_cons_zero, List.getElem?_cons_succ]

                have er : -7000000 ≤ E ∧ E ≤ 11000000 := by omega
                obtain ⟨er0, er1⟩ := er
                clear AX AW IP IG hE w0 w1' rm0 rm1
                have c9 := KT.out.cell 4 0 rfl rfl
                have cl2 := KT.out.cell 3 2 rfl rfl
                have WR := wd_rng HS.out f (f + m + 1) (by rw [← HN.out, ← HM.out]; exact tn)
                rw [HWd.out] at WR
                obtain ⟨wr0, wr1⟩ := WR
                have hd := HDd.out
                clear c9 cl2
                have KB9 := KB
                have KT9 := KT
                have AX0 : Hid (∀ wy, Below w6.heap.size w6 wy → wy.cell? ⟨p, 0, none⟩ = some (.int .i64 a0)) := Lib.hid (fun wy hb => by have := OX.out 0 (Nat.zero_le _) wy hb; rw [ov_zero] at this; exact this)
                have ip0 : ∀ wy : World, (Instr.indexAt 37 (.slice (some ⟨p, 0, none⟩) (m + 1) (m + 1)) (.int .i64 0)).run Try.prog wy = .ok (.pointer (some ⟨p, 0, none⟩)) wy := IPG.out p 0 (Nat.zero_le _)
                have cp0 := AX0.out _ KB.out
                have EQ := EE.out
                have AQ := HA.out
                have JQ := HJ.out
                obtain ⟨ir0, ir1, _, _, _⟩ := IR.out
                have c14 := KT.out.cell 1 0 rfl rfl
                have c9 := KT.out.cell 4 0 rfl rfl
                have cl1 := KT.out.cell 3 1 rfl rfl
                have cl2 := KT.out.cell 3 2 rfl rfl
                have c7 := KT.out.cell 6 0 rfl rfl
                have tx4 : tx = 1 ∨ tx = 2 ∨ tx = 3 ∨ tx = 4 := by omega
                rcases tx4 with e | e | e | e
                · subst e
                  have KT : Hid (Tab wz [(h + 1, [.slice (some ⟨q, 0, none⟩) (m + 1) (m + 1)]), (h, [.slice (some ⟨p, 0, none⟩) (m + 1) (m + 1)]), (bx, [.int .i64 1]), (b12, [.int .i64 (f : Int), .int .i64 (t : Int), .int .i64 W, .int .i64 H]), (b + 2, [.int .i64 av]), (b + 1, [.slice (some ⟨g2, o2, none⟩) gn gc]), (b, [.slice (some ⟨g, o, none⟩) n c]), (b5, [.int .u8 mo])]) := Lib.hid KT9.out
                  have KB := KB9
                  have c13 := KT.out.cell 2 0 rfl rfl
                  have ea : a0 = 0 := by rw [← AQ]; simp [indF]
                  have jf : j = false := by rw [JQ]; simp
                  have hE : (E != W) = false := by rw [jf] at EQ; simp [gF] at EQ; simp; omega
                  subst ea
                  clear EQ AQ JQ
                  go_upto_region 25 with fail
                  go_cut [132, 140] from 132 to 146 (fun s132 s140 wx => s132 = .bool false ∧ (s140 = undef ∨ s140 = .bool false) ∧ wx = wz)
                  case first => as_aux_lemma =>
                    go_wp2_with fail
                    go_meet
                    exact ⟨rfl, (by first | exact .inl rfl | exact .inr rfl | exact .inl ⟨rfl, rfl, rfl, rfl⟩), rfl⟩
                  case rest =>
                    obtain ⟨rfl, h140, hwx⟩ := hcut
                    obtain rfl := hwx.symm
                    go_upto_region 28 with fail
                    go_cut [154, 165] from 154 to 175 (fun s154 s165 wx => ∃ wv, wv = wx ∧ s154 = .bool false ∧ (s165 = undef ∨ s165 = .bool false) ∧ Hid (Below w6.heap.size w6 wv) ∧ Hid (Tab wv [(h + 1, [.slice (some ⟨q, 0, none⟩) (m + 1) (m + 1)]), (h, [.slice (some ⟨p, 0, none⟩) (m + 1) (m + 1)]), (bx, [.int .i64 1]), (b12, [.int .i64 (f : Int), .int .i64 (t : Int), .int .i64 W, .int .i64 H]), (b + 2, [.int .i64 av]), (b + 1, [.slice (some ⟨g2, o2, none⟩) gn gc]), (b, [.slice (some ⟨g, o, none⟩) n c]), (b5, [.int .u8 mo])]))
                    case first => as_aux_lemma =>
                      rcases h165 with rfl | rfl
                      · go_wp2_with fail
                        go_quiet (fail)
                        go_wp2_with fail
                        go_meet
                        exact ⟨_, rfl, rfl, (by first | exact .inl rfl | exact .inr rfl | exact .inl ⟨rfl, rfl, rfl, rfl⟩), Lib.hid (below_drewN KB.out _), Lib.hid (KT.out.later (below_drewN (Below.refl _ _) _))⟩
                      · go_wp2_with fail
                        go_quiet (fail)
                        go_wp2_with fail
                        go_meet
                        exact ⟨_, rfl, rfl, (by first | exact .inl rfl | exact .inr rfl | exact .inl ⟨rfl, rfl, rfl, rfl⟩), Lib.hid (below_drewN KB.out _), Lib.hid (KT.out.later (below_drewN (Below.refl _ _) _))⟩
                    case rest =>
                      obtain ⟨wv, rfl, rfl, h165, KB8, KT8⟩ := hcut
                      have c13 := KT8.out.cell 2 0 rfl rfl
                      have c14 := KT8.out.cell 1 0 rfl rfl
                      have c9 := KT8.out.cell 4 0 rfl rfl
                      have cl1 := KT8.out.cell 3 1 rfl rfl
                      have c7 := KT8.out.cell 6 0 rfl rfl
                      have cp0 := AX0.out _ KB8.out
                      go_upto_region 30 with fail
                      go_cut [176, 184, 188, 195, 199] from 176 to 205 (fun s176 s184 s188 s195 s199 wx => s176 = .bool false ∧ ((s184 = undef ∧ s188 = undef ∧ s195 = undef ∧ s199 = undef) ∨ s184 = .bool false) ∧ wx = wv)
                      case first => as_aux_lemma =>
                        rcases h184 with ⟨rfl, rfl, rfl, rfl⟩ | rfl
                        · go_wp2_with fail
                          go_meet
                          exact ⟨rfl, .inl ⟨rfl, rfl, rfl, rfl⟩, rfl⟩
                        · have ok := trivial
                          by_cases m0 : 0 < m
                          · have m1 : (1 : Int) < (m : Int) + 1 := by omega
                            by_cases q2 : t < n
                            · have q2' : (t : Int) < (n : Int) := by omega
                              by_cases q3 : 0 < d
                              · have ok := trivial
                                go_wp2_with fail
                                go_meet
                                exact ⟨rfl, (by first | exact .inl rfl | exact .inr rfl | exact .inl ⟨rfl, rfl, rfl, rfl⟩), rfl⟩
                              · have ok := trivial
                                go_wp2_with fail
                                go_meet
                                exact ⟨rfl, (by first | exact .inl rfl | exact .inr rfl | exact .inl ⟨rfl, rfl, rfl, rfl⟩), rfl⟩
                            · have q2' : ¬ (t : Int) < (n : Int) := by omega
                              go_wp2_with fail
                              go_meet
                              exact ⟨rfl, (by first | exact .inl rfl | exact .inr rfl | exact .inl ⟨rfl, rfl, rfl, rfl⟩), rfl⟩
                          · have m1 : ¬ (1 : Int) < (m : Int) + 1 := by omega
                            go_wp2_with fail
                            go_meet
                            exact ⟨rfl, (by first | exact .inl rfl | exact .inr rfl | exact .inl ⟨rfl, rfl, rfl, rfl⟩), rfl⟩
                      case rest =>
                        obtain ⟨rfl, h184, hwx⟩ := hcut
                        obtain rfl := hwx.symm
                        clear c14 c9 cl1 c7 cp0
                        have BV : Hid (Below w4.heap.size w4 wv) := Lib.hid (bel_tr0 B6.out KB8.out)
                        have TV : Hid (Tab wv [(b12, [.int .i64 (f : Int), .int .i64 (t : Int), .int .i64 W, .int .i64 H]), (b + 2, [.int .i64 av]), (b + 1, [.slice (some ⟨g2, o2, none⟩) gn gc]), (b, [.slice (some ⟨g, o, none⟩) n c]), (b5, [.int .u8 mo])]) := Lib.hid ((((((Tab.nil _).cons (KT8.out 7 _ _ rfl)).cons (KT8.out 6 _ _ rfl)).cons (KT8.out 5 _ _ rfl)).cons (KT8.out 4 _ _ rfl)).cons (KT8.out 3 _ _ rfl))
                        go_wp2_with fail
                        go_roundw
                        case rel => exact ⟨wv.heap.size, 2, _, h140, h165, h184, rfl, rfl, by omega, by omega, TV.out.lt 0 rfl, Lib.hid (bel_tr0 BV.out (bel_newR _ _)), Lib.hid (TV.out.new' _ _ rfl)⟩
                        case measure =>
                          rw [TXE.out]
                          simp [txOf, go_sem]
                · subst e
                  have KT : Hid (Tab wz [(h + 1, [.slice (some ⟨q, 0, none⟩) (m + 1) (m + 1)]), (h, [.slice (some ⟨p, 0, none⟩) (m + 1) (m + 1)]), (bx, [.int .i64 2]), (b12, [.int .i64 (f : Int), .int .i64 (t : Int), .int .i64 W, .int .i64 H]), (b + 2, [.int .i64 av]), (b + 1, [.slice (some ⟨g2, o2, none⟩) gn gc]), (b, [.slice (some ⟨g, o, none⟩) n c]), (b5, [.int .u8 mo])]) := Lib.hid KT9.out
                  have KB := KB9
                  have c13 := KT.out.cell 2 0 rfl rfl
                  have ea : a0 = d := by rw [← AQ]; simp [indF]
                  have jf : j = false := by rw [JQ]; simp
                  have hE : (E != av) = false := by rw [jf] at EQ; simp [gF] at EQ; simp; omega
                  clear EQ AQ JQ
                  go_upto_region 25 with fail
                  go_cut [132, 140] from 132 to 146 (fun s132 s140 wx => s132 = .bool false ∧ (s140 = undef ∨ s140 = .bool false) ∧ wx = wz)
                  case first => as_aux_lemma =>
                    rcases h140 with rfl | rfl
                    · go_wp2_with fail
                      go_meet
                      exact ⟨rfl, (by first | exact .inl rfl | exact .inr rfl | exact .inl ⟨rfl, rfl, rfl, rfl⟩), rfl⟩
                    · go_wp2_with fail
                      go_meet
                      exact ⟨rfl, (by first | exact .inl rfl | exact .inr rfl | exact .inl ⟨rfl, rfl, rfl, rfl⟩), rfl⟩
                  case rest =>
                    obtain ⟨rfl, h140, hwx⟩ := hcut
                    obtain rfl := hwx.symm
                    go_upto_region 28 with fail
                    go_cut [154, 165] from 154 to 175 (fun s154 s165 wx => ∃ wv, wv = wx ∧ s154 = .bool false ∧ (s165 = undef ∨ s165 = .bool false) ∧ Hid (Below w6.heap.size w6 wv) ∧ Hid (Tab wv [(h + 1, [.slice (some ⟨q, 0, none⟩) (m + 1) (m + 1)]), (h, [.slice (some ⟨p, 0, none⟩) (m + 1) (m + 1)]), (bx, [.int .i64 2]), (b12, [.int .i64 (f : Int), .int .i64 (t : Int), .int .i64 W, .int .i64 H]), (b + 2, [.int .i64 av]), (b + 1, [.slice (some ⟨g2, o2, none⟩) gn gc]), (b, [.slice (some ⟨g, o, none⟩) n c]), (b5, [.int .u8 mo])]))
                    case first => as_aux_lemma =>
                      rcases h165 with rfl | rfl
                      · go_wp2_with fail
                        go_quiet (fail)
                        go_wp2_with fail
                        go_meet
                        exact ⟨_, rfl, rfl, (by first | exact .inl rfl | exact .inr rfl | exact .inl ⟨rfl, rfl, rfl, rfl⟩), Lib.hid (below_drewN KB.out _), Lib.hid (KT.out.later (below_drewN (Below.refl _ _) _))⟩
                      · go_wp2_with fail
                        go_quiet (fail)
                        go_wp2_with fail
                        go_meet
                        exact ⟨_, rfl, rfl, (by first | exact .inl rfl | exact .inr rfl | exact .inl ⟨rfl, rfl, rfl, rfl⟩), Lib.hid (below_drewN KB.out _), Lib.hid (KT.out.later (below_drewN (Below.refl _ _) _))⟩
                    case rest =>
                      obtain ⟨wv, rfl, rfl, h165, KB8, KT8⟩ := hcut
                      have c13 := KT8.out.cell 2 0 rfl rfl
                      have c14 := KT8.out.cell 1 0 rfl rfl
                      have c9 := KT8.out.cell 4 0 rfl rfl
                      have cl1 := KT8.out.cell 3 1 rfl rfl
                      have c7 := KT8.out.cell 6 0 rfl rfl
                      have cp0 := AX0.out _ KB8.out
                      go_upto_region 30 with fail
                      go_cut [176, 184, 188, 195, 199] from 176 to 205 (fun s176 s184 s188 s195 s199 wx => s176 = .bool false ∧ ((s184 = undef ∧ s188 = undef ∧ s195 = undef ∧ s199 = undef) ∨ s184 = .bool false) ∧ wx = wv)
                      case first => as_aux_lemma =>
                        rcases h184 with ⟨rfl, rfl, rfl, rfl⟩ | rfl
                        · go_wp2_with fail
                          go_meet
                          exact ⟨rfl, .inl ⟨rfl, rfl, rfl, rfl⟩, rfl⟩
                        · have ok := trivial
                          by_cases m0 : 0 < m
                          · have m1 : (1 : Int) < (m : Int) + 1 := by omega
                            by_cases q2 : t < n
                            · have q2' : (t : Int) < (n : Int) := by omega
                              by_cases q3 : 0 < d
                              · have ok := trivial
                                go_wp2_with fail
                                go_meet
                                exact ⟨rfl, (by first | exact .inl rfl | exact .inr rfl | exact .inl ⟨rfl, rfl, rfl, rfl⟩), rfl⟩
                              · have ok := trivial
                                go_wp2_with fail
                                go_meet
                                exact ⟨rfl, (by first | exact .inl rfl | exact .inr rfl | exact .inl ⟨rfl, rfl, rfl, rfl⟩), rfl⟩
                            · have q2' : ¬ (t : Int) < (n : Int) := by omega
                              go_wp2_with fail
                              go_meet
                              exact ⟨rfl, (by first | exact .inl rfl | exact .inr rfl | exact .inl ⟨rfl, rfl, rfl, rfl⟩), rfl⟩
                          · have m1 : ¬ (1 : Int) < (m : Int) + 1 := by omega
                            go_wp2_with fail
                            go_meet
                            exact ⟨rfl, (by first | exact .inl rfl | exact .inr rfl | exact .inl ⟨rfl, rfl, rfl, rfl⟩), rfl⟩
                      case rest =>
                        obtain ⟨rfl, h184, hwx⟩ := hcut
                        obtain rfl := hwx.symm
                        clear c14 c9 cl1 c7 cp0
                        have BV : Hid (Below w4.heap.size w4 wv) := Lib.hid (bel_tr0 B6.out KB8.out)
                        have TV : Hid (Tab wv [(b12, [.int .i64 (f : Int), .int .i64 (t : Int), .int .i64 W, .int .i64 H]), (b + 2, [.int .i64 av]), (b + 1, [.slice (some ⟨g2, o2, none⟩) gn gc]), (b, [.slice (some ⟨g, o, none⟩) n c]), (b5, [.int .u8 mo])]) := Lib.hid ((((((Tab.nil _).cons (KT8.out 7 _ _ rfl)).cons (KT8.out 6 _ _ rfl)).cons (KT8.out 5 _ _ rfl)).cons (KT8.out 4 _ _ rfl)).cons (KT8.out 3 _ _ rfl))
                        go_wp2_with fail
                        go_roundw
                        case rel => exact ⟨wv.heap.size, 3, _, h140, h165, h184, rfl, rfl, by omega, by omega, TV.out.lt 0 rfl, Lib.hid (bel_tr0 BV.out (bel_newR _ _)), Lib.hid (TV.out.new' _ _ rfl)⟩
                        case measure =>
                          rw [TXE.out]
                          simp [txOf, go_sem]
                · subst e
                  have KT : Hid (Tab wz [(h + 1, [.slice (some ⟨q, 0, none⟩) (m + 1) (m + 1)]), (h, [.slice (some ⟨p, 0, none⟩) (m + 1) (m + 1)]), (bx, [.int .i64 3]), (b12, [.int .i64 (f : Int), .int .i64 (t : Int), .int .i64 W, .int .i64 H]), (b + 2, [.int .i64 av]), (b + 1, [.slice (some ⟨g2, o2, none⟩) gn gc]), (b, [.slice (some ⟨g, o, none⟩) n c]), (b5, [.int .u8 mo])]) := Lib.hid KT9.out
                  have KB := KB9
                  have c13 := KT.out.cell 2 0 rfl rfl
                  have ea : a0 = d / 2 := by rw [← AQ]; simp [indF]
                  have jf : j = false := by rw [JQ]; simp
                  have hE : E = d / 2 + W := by rw [jf] at EQ; simp [gF] at EQ; omega
                  have z1 : ¬ av - E < a0 := by omega
                  have z2 : ¬ a0 + 1 < av - E := by omega
                  have AX := AX0
                  have IP := Lib.hid ip0
                  clear hE ea
                  clear EQ AQ JQ
                  go_upto_region 25 with fail
                  go_cut [132, 140] from 132 to 146 (fun s132 s140 wx => s132 = .bool false ∧ (s140 = undef ∨ s140 = .bool false) ∧ wx = wz)
                  case first => as_aux_lemma =>
                    rcases h140 with rfl | rfl
                    · go_wp2_with fail
                      go_meet
                      exact ⟨rfl, (by first | exact .inl rfl | exact .inr rfl | exact .inl ⟨rfl, rfl, rfl, rfl⟩), rfl⟩
                    · go_wp2_with fail
                      go_meet
                      exact ⟨rfl, (by first | exact .inl rfl | exact .inr rfl | exact .inl ⟨rfl, rfl, rfl, rfl⟩), rfl⟩
                  case rest =>
                    obtain ⟨rfl, h140, hwx⟩ := hcut
                    obtain rfl := hwx.symm
                    go_upto_region 28 with fail
                    go_cut [154, 165] from 154 to 175 (fun s154 s165 wx => ∃ wv, wv = wx ∧ s154 = .bool false ∧ (s165 = undef ∨ s165 = .bool false) ∧ Hid (Below w6.heap.size w6 wv) ∧ Hid (Tab wv [(h + 1, [.slice (some ⟨q, 0, none⟩) (m + 1) (m + 1)]), (h, [.slice (some ⟨p, 0, none⟩) (m + 1) (m + 1)]), (bx, [.int .i64 3]), (b12, [.int .i64 (f : Int), .int .i64 (t : Int), .int .i64 W, .int .i64 H]), (b + 2, [.int .i64 av]), (b + 1, [.slice (some ⟨g2, o2, none⟩) gn gc]), (b, [.slice (some ⟨g, o, none⟩) n c]), (b5, [.int .u8 mo])]))
                    case first => as_aux_lemma =>
                      go_wp2_with fail
                      refine wp_region_vals [some (.int .i64 3), some (.bool true), some (.bool true), some (.slice (some ⟨p, 0, none⟩) (m + 1) (m + 1)), some (.pointer (some ⟨p, 0, none⟩)), some (.int .i64 a0), some (.int .i64 av), some (.int .i64 E), some (.int .i64 (av - E)), some (.bool false), some (.bool false), some (.int .i64 av), some (.int .i64 E), some (.int .i64 (av - E)), some (.slice (some ⟨p, 0, none⟩) (m + 1) (m + 1)), some (.pointer (some ⟨p, 0, none⟩)), some (.int .i64 a0), some (.int .i64 (a0 + 1)), some (.bool false), some (.bool false), some (.bool false), some (.bool false)] (fun Lz _ wy => Below w6.heap.size w6 wy ∧ Tab wy [(h + 1, [.slice (some ⟨q, 0, none⟩) (m + 1) (m + 1)]), (h, [.slice (some ⟨p, 0, none⟩) (m + 1) (m + 1)]), (bx, [.int .i64 3]), (b12, [.int .i64 (f : Int), .int .i64 (t : Int), .int .i64 W, .int .i64 H]), (b + 2, [.int .i64 av]), (b + 1, [.slice (some ⟨g2, o2, none⟩) gn gc]), (b, [.slice (some ⟨g, o, none⟩) n c]), (b5, [.int .u8 mo])])
                        [some 155, some 156, some 157, some 158, some 159, some 160, some 161, some 162, some 163, some 164, some 165, some 166, some 167, some 168, some 169, some 170, some 171, some 172, some 173, some 174, some 175, some 154] (by kernel_rfl) (by kernel_rfl) (by kernel_rfl) (by kernel_rfl) (by kernel_rfl) (by kernel_rfl) ⟨KB.out.drew, KT.out.later ((Below.refl _ _).drew)⟩ (fun i o ho => ?_) (fun Lz vz wz hL hB => ?_)
                      · match i, ho with
                        | 0, ho =>
                          obtain rfl := Option.some.inj ho
                          intro Az Lz vz wy Kz Ez hB k
                          have e13 : Az.eval (.tmp 13) = .pointer (some ⟨bx, 0, none⟩) := Ez.out 13 (by kernel_rfl)
                          have c2_0 := hB.2.cell 2 0 rfl rfl
                          exact wpo_val (v := .int .i64 3) (run_load e13 (by simp [go_sem, c2_0])) (k _ _ rfl hB)
                        | 1, ho =>
                          obtain rfl := Option.some.inj ho
                          intro Az Lz vz wy Kz Ez hB k
                          have e155 : Az.eval (.tmp 155) = .int .i64 3 := Ez.dep 0 155 (by kernel_rfl) rfl
                          exact wpo_val (v := .bool true) (run_bin e155 rfl (by simp [go_sem]) (by simp [go_sem])) (k _ _ rfl hB)
                        | 2, ho =>
                          obtain rfl := Option.some.inj ho
                          intro Az Lz vz wy Kz Ez hB k
                          have e156 : Az.eval (.tmp 156) = .bool true := Ez.dep 1 156 (by kernel_rfl) rfl
                          exact wpo_val (v := .bool true) (run_move e156) (k _ _ rfl hB)
                        | 3, ho =>
                          obtain rfl := Option.some.inj ho
                          intro Az Lz vz wy Kz Ez hB k
                          have e14 : Az.eval (.tmp 14) = .pointer (some ⟨h, 0, none⟩) := Ez.out 14 (by kernel_rfl)
                          have c1_0 := hB.2.cell 1 0 rfl rfl
                          exact wpo_val (v := .slice (some ⟨p, 0, none⟩) (m + 1) (m + 1)) (run_load e14 (by simp [go_sem, c1_0])) (k _ _ rfl hB)
                        | 4, ho =>
                          obtain rfl := Option.some.inj ho
                          intro Az Lz vz wy Kz Ez hB k
                          have e158 : Az.eval (.tmp 158) = .slice (some ⟨p, 0, none⟩) (m + 1) (m + 1) := Ez.dep 3 158 (by kernel_rfl) rfl
                          exact wpo_val (v := .pointer (some ⟨p, 0, none⟩)) (run_index e158 rfl (IP.out wy)) (k _ _ rfl hB)
                        | 5, ho =>
                          obtain rfl := Option.some.inj ho
                          intro Az Lz vz wy Kz Ez hB k
                          have e159 : Az.eval (.tmp 159) = .pointer (some ⟨p, 0, none⟩) := Ez.dep 4 159 (by kernel_rfl) rfl
                          exact wpo_val (v := .int .i64 a0) (run_load e159 (by simp [go_sem, AX.out wy hB.1])) (k _ _ rfl hB)
                        | 6, ho =>
                          obtain rfl := Option.some.inj ho
                          intro Az Lz vz wy Kz Ez hB k
                          have e9 : Az.eval (.tmp 9) = .pointer (some ⟨b + 2, 0, none⟩) := Ez.out 9 (by kernel_rfl)
                          have c4_0 := hB.2.cell 4 0 rfl rfl
                          exact wpo_val (v := .int .i64 av) (run_load e9 (by simp [go_sem, c4_0])) (k _ _ rfl hB)
                        | 7, ho =>
                          obtain rfl := Option.some.inj ho
                          intro Az Lz vz wy Kz Ez hB k
                          have e18 : Az.eval (.tmp 18) = .int .i64 E := Ez.out 18 (by kernel_rfl)
                          exact wpo_val (v := .int .i64 E) (run_move e18) (k _ _ rfl hB)
                        | 8, ho =>
                          obtain rfl := Option.some.inj ho
                          intro Az Lz vz wy Kz Ez hB k
                          have e161 : Az.eval (.tmp 161) = .int .i64 av := Ez.dep 6 161 (by kernel_rfl) rfl
                          have e162 : Az.eval (.tmp 162) = .int .i64 E := Ez.dep 7 162 (by kernel_rfl) rfl
                          exact wpo_val (v := .int .i64 (av - E)) (run_bin e161 e162 (by simp [go_sem]) (by simp [go_sem, IntKind.wrap_i64]; try omega)) (k _ _ rfl hB)
                        | 9, ho =>
                          obtain rfl := Option.some.inj ho
                          intro Az Lz vz wy Kz Ez hB k
                          have e160 : Az.eval (.tmp 160) = .int .i64 a0 := Ez.dep 5 160 (by kernel_rfl) rfl
                          have e163 : Az.eval (.tmp 163) = .int .i64 (av - E) := Ez.dep 8 163 (by kernel_rfl) rfl
                          exact wpo_val (v := .bool false) (run_bin e160 e163 (by simp [go_sem]) (by simp [go_sem, z1])) (k _ _ rfl hB)
                        | 10, ho =>
                          obtain rfl := Option.some.inj ho
                          intro Az Lz vz wy Kz Ez hB k
                          have e164 : Az.eval (.tmp 164) = .bool false := Ez.dep 9 164 (by kernel_rfl) rfl
                          exact wpo_val (v := .bool false) (run_move e164) (k _ _ rfl hB)
                        | 11, ho =>
                          obtain rfl := Option.some.inj ho
                          intro Az Lz vz wy Kz Ez hB k
                          have e9 : Az.eval (.tmp 9) = .pointer (some ⟨b + 2, 0, none⟩) := Ez.out 9 (by kernel_rfl)
                          have c4_0 := hB.2.cell 4 0 rfl rfl
                          exact wpo_val (v := .int .i64 av) (run_load e9 (by simp [go_sem, c4_0])) (k _ _ rfl hB)
                        | 12, ho =>
                          obtain rfl := Option.some.inj ho
                          intro Az Lz vz wy Kz Ez hB k
                          have e18 : Az.eval (.tmp 18) = .int .i64 E := Ez.out 18 (by kernel_rfl)
                          exact wpo_val (v := .int .i64 E) (run_move e18) (k _ _ rfl hB)
                        | 13, ho =>
                          obtain rfl := Option.some.inj ho
                          intro Az Lz vz wy Kz Ez hB k
                          have e166 : Az.eval (.tmp 166) = .int .i64 av := Ez.dep 11 166 (by kernel_rfl) rfl
                          have e167 : Az.eval (.tmp 167) = .int .i64 E := Ez.dep 12 167 (by kernel_rfl) rfl
                          exact wpo_val (v := .int .i64 (av - E)) (run_bin e166 e167 (by simp [go_sem]) (by simp [go_sem, IntKind.wrap_i64]; try omega)) (k _ _ rfl hB)
                        | 14, ho =>
                          obtain rfl := Option.some.inj ho
                          intro Az Lz vz wy Kz Ez hB k
                          have e14 : Az.eval (.tmp 14) = .pointer (some ⟨h, 0, none⟩) := Ez.out 14 (by kernel_rfl)
                          have c1_0 := hB.2.cell 1 0 rfl rfl
                          exact wpo_val (v := .slice (some ⟨p, 0, none⟩) (m + 1) (m + 1)) (run_load e14 (by simp [go_sem, c1_0])) (k _ _ rfl hB)
                        | 15, ho =>
                          obtain rfl := Option.some.inj ho
                          intro Az Lz vz wy Kz Ez hB k
                          have e169 : Az.eval (.tmp 169) = .slice (some ⟨p, 0, none⟩) (m + 1) (m + 1) := Ez.dep 14 169 (by kernel_rfl) rfl
                          exact wpo_val (v := .pointer (some ⟨p, 0, none⟩)) (run_index e169 rfl (IP.out wy)) (k _ _ rfl hB)
                        | 16, ho =>
                          obtain rfl := Option.some.inj ho
                          intro Az Lz vz wy Kz Ez hB k
                          have e170 : Az.eval (.tmp 170) = .pointer (some ⟨p, 0, none⟩) := Ez.dep 15 170 (by kernel_rfl) rfl
                          exact wpo_val (v := .int .i64 a0) (run_load e170 (by simp [go_sem, AX.out wy hB.1])) (k _ _ rfl hB)
                        | 17, ho =>
                          obtain rfl := Option.some.inj ho
                          intro Az Lz vz wy Kz Ez hB k
                          have e171 : Az.eval (.tmp 171) = .int .i64 a0 := Ez.dep 16 171 (by kernel_rfl) rfl
                          exact wpo_val (v := .int .i64 (a0 + 1)) (run_bin e171 rfl (by simp [go_sem]) (by simp [go_sem, IntKind.wrap_i64]; try omega)) (k _ _ rfl hB)
                        | 18, ho =>
                          obtain rfl := Option.some.inj ho
                          intro Az Lz vz wy Kz Ez hB k
                          have e168 : Az.eval (.tmp 168) = .int .i64 (av - E) := Ez.dep 13 168 (by kernel_rfl) rfl
                          have e172 : Az.eval (.tmp 172) = .int .i64 (a0 + 1) := Ez.dep 17 172 (by kernel_rfl) rfl
                          exact wpo_val (v := .bool false) (run_bin e168 e172 (by simp [go_sem]) (by simp [go_sem, z2])) (k _ _ rfl hB)
                        | 19, ho =>
                          obtain rfl := Option.some.inj ho
                          intro Az Lz vz wy Kz Ez hB k
                          have e165 : Az.eval (.tmp 165) = .bool false := Ez.dep 10 165 (by kernel_rfl) rfl
                          have e173 : Az.eval (.tmp 173) = .bool false := Ez.dep 18 173 (by kernel_rfl) rfl
                          exact wpo_val (v := .bool false) (run_pickF e165 e173) (k _ _ rfl hB)
                        | 20, ho =>
                          obtain rfl := Option.some.inj ho
                          intro Az Lz vz wy Kz Ez hB k
                          have e157 : Az.eval (.tmp 157) = .bool true := Ez.dep 2 157 (by kernel_rfl) rfl
                          have e174 : Az.eval (.tmp 174) = .bool false := Ez.dep 19 174 (by kernel_rfl) rfl
                          exact wpo_val (v := .bool false) (run_pickT e157 e174) (k _ _ rfl hB)
                        | 21, ho =>
                          obtain rfl := Option.some.inj ho
                          intro Az Lz vz wy Kz Ez hB k
                          have e175 : Az.eval (.tmp 175) = .bool false := Ez.dep 20 175 (by kernel_rfl) rfl
                          exact wpo_val (v := .bool false) (run_assign e175) (k _ _ rfl hB)
                        | n + 22, ho => simp at ho
                      · obtain ⟨hk, hT⟩ := hB
                        have KB := Lib.hid hk
                        have KT := Lib.hid hT
                        clear hk hT hL
                        simp only [puts2, mix, Act.put, List.setIfInBounds_toArray, List.set_cons_zero, List.set_cons_succ, Nat.zero_add, Nat.reduceAdd, List.getElem?_cons_zero, List.getElem?_cons_succ]

                        go_wp2_with fail
                        go_meet
                        exact ⟨_, rfl, rfl, (by first | exact .inl rfl | exact .inr rfl | exact .inl ⟨rfl, rfl, rfl, rfl⟩), KB, KT⟩
                    case rest =>
                      obtain ⟨wv, rfl, rfl, h165, KB8, KT8⟩ := hcut
                      have c13 := KT8.out.cell 2 0 rfl rfl
                      have c14 := KT8.out.cell 1 0 rfl rfl
                      have c9 := KT8.out.cell 4 0 rfl rfl
                      have cl1 := KT8.out.cell 3 1 rfl rfl
                      have c7 := KT8.out.cell 6 0 rfl rfl
                      have cp0 := AX0.out _ KB8.out
                      go_upto_region 30 with fail
                      go_cut [176, 184, 188, 195, 199] from 176 to 205 (fun s176 s184 s188 s195 s199 wx => s176 = .bool false ∧ ((s184 = undef ∧ s188 = undef ∧ s195 = undef ∧ s199 = undef) ∨ s184 = .bool false) ∧ wx = wv)
                      case first => as_aux_lemma =>
                        rcases h184 with ⟨rfl, rfl, rfl, rfl⟩ | rfl
                        · go_wp2_with fail
                          go_meet
                          exact ⟨rfl, .inl ⟨rfl, rfl, rfl, rfl⟩, rfl⟩
                        · have ok := trivial
                          by_cases m0 : 0 < m
                          · have m1 : (1 : Int) < (m : Int) + 1 := by omega
                            by_cases q2 : t < n
                            · have q2' : (t : Int) < (n : Int) := by omega
                              by_cases q3 : 0 < d
                              · have ok := trivial
                                go_wp2_with fail
                                go_meet
                                exact ⟨rfl, (by first | exact .inl rfl | exact .inr rfl | exact .inl ⟨rfl, rfl, rfl, rfl⟩), rfl⟩
                              · have ok := trivial
                                go_wp2_with fail
                                go_meet
                                exact ⟨rfl, (by first | exact .inl rfl | exact .inr rfl | exact .inl ⟨rfl, rfl, rfl, rfl⟩), rfl⟩
                            · have q2' : ¬ (t : Int) < (n : Int) := by omega
                              go_wp2_with fail
                              go_meet
                              exact ⟨rfl, (by first | exact .inl rfl | exact .inr rfl | exact .inl ⟨rfl, rfl, rfl, rfl⟩), rfl⟩
                          · have m1 : ¬ (1 : Int) < (m : Int) + 1 := by omega
                            go_wp2_with fail
                            go_meet
                            exact ⟨rfl, (by first | exact .inl rfl | exact .inr rfl | exact .inl ⟨rfl, rfl, rfl, rfl⟩), rfl⟩
                      case rest =>
                        obtain ⟨rfl, h184, hwx⟩ := hcut
                        obtain rfl := hwx.symm
                        clear c14 c9 cl1 c7 cp0
                        have BV : Hid (Below w4.heap.size w4 wv) := Lib.hid (bel_tr0 B6.out KB8.out)
                        have TV : Hid (Tab wv [(b12, [.int .i64 (f : Int), .int .i64 (t : Int), .int .i64 W, .int .i64 H]), (b + 2, [.int .i64 av]), (b + 1, [.slice (some ⟨g2, o2, none⟩) gn gc]), (b, [.slice (some ⟨g, o, none⟩) n c]), (b5, [.int .u8 mo])]) := Lib.hid ((((((Tab.nil _).cons (KT8.out 7 _ _ rfl)).cons (KT8.out 6 _ _ rfl)).cons (KT8.out 5 _ _ rfl)).cons (KT8.out 4 _ _ rfl)).cons (KT8.out 3 _ _ rfl))
                        go_wp2_with fail
                        go_roundw
                        case rel => exact ⟨wv.heap.size, 4, _, h140, h165, h184, rfl, rfl, by omega, by omega, TV.out.lt 0 rfl, Lib.hid (bel_tr0 BV.out (bel_newR _ _)), Lib.hid (TV.out.new' _ _ rfl)⟩
                        case measure =>
                          rw [TXE.out]
                          simp [txOf, go_sem]
                · subst e
                  have KT : Hid (Tab wz [(h + 1, [.slice (some ⟨q, 0, none⟩) (m + 1) (m + 1)]), (h, [.slice (some ⟨p, 0, none⟩) (m + 1) (m + 1)]), (bx, [.int .i64 4]), (b12, [.int .i64 (f : Int), .int .i64 (t : Int), .int .i64 W, .int .i64 H]), (b + 2, [.int .i64 av]), (b + 1, [.slice (some ⟨g2, o2, none⟩) gn gc]), (b, [.slice (some ⟨g, o, none⟩) n c]), (b5, [.int .u8 mo])]) := Lib.hid KT9.out
                  have KB := KB9
                  have c13 := KT.out.cell 2 0 rfl rfl
                  have ea : a0 = 0 := by rw [← AQ]; simp [indF]
                  subst ea
                  have HE4 : Hid (0 < m → t < n → 0 < d → E = av) := Lib.hid (fun q1 q2 q3 => by
                    have jt : j = true := by rw [JQ, ← HM.out]; simp [q2, q3]
                    rw [jt, gF_all (by omega)] at EQ
                    omega)
                  clear EQ AQ JQ
                  go_upto_region 25 with fail
                  go_cut [132, 140] from 132 to 146 (fun s132 s140 wx => s132 = .bool false ∧ (s140 = undef ∨ s140 = .bool false) ∧ wx = wz)
                  case first => as_aux_lemma =>
                    rcases h140 with rfl | rfl
                    · go_wp2_with fail
                      go_meet
                      exact ⟨rfl, (by first | exact .inl rfl | exact .inr rfl | exact .inl ⟨rfl, rfl, rfl, rfl⟩), rfl⟩
                    · go_wp2_with fail
                      go_meet
                      exact ⟨rfl, (by first | exact .inl rfl | exact .inr rfl | exact .inl ⟨rfl, rfl, rfl, rfl⟩), rfl⟩
                  case rest =>
                    obtain ⟨rfl, h140, hwx⟩ := hcut
                    obtain rfl := hwx.symm
                    go_upto_region 28 with fail
                    go_cut [154, 165] from 154 to 175 (fun s154 s165 wx => ∃ wv, wv = wx ∧ s154 = .bool false ∧ (s165 = undef ∨ s165 = .bool false) ∧ Hid (Below w6.heap.size w6 wv) ∧ Hid (Tab wv [(h + 1, [.slice (some ⟨q, 0, none⟩) (m + 1) (m + 1)]), (h, [.slice (some ⟨p, 0, none⟩) (m + 1) (m + 1)]), (bx, [.int .i64 4]), (b12, [.int .i64 (f : Int), .int .i64 (t : Int), .int .i64 W, .int .i64 H]), (b + 2, [.int .i64 av]), (b + 1, [.slice (some ⟨g2, o2, none⟩) gn gc]), (b, [.slice (some ⟨g, o, none⟩) n c]), (b5, [.int .u8 mo])]))
                    case first => as_aux_lemma =>
                      rcases h165 with rfl | rfl
                      · go_wp2_with fail
                        go_quiet (fail)
                        go_wp2_with fail
                        go_meet
                        exact ⟨_, rfl, rfl, (by first | exact .inl rfl | exact .inr rfl | exact .inl ⟨rfl, rfl, rfl, rfl⟩), Lib.hid (below_drewN KB.out _), Lib.hid (KT.out.later (below_drewN (Below.refl _ _) _))⟩
                      · go_wp2_with fail
                        go_quiet (fail)
                        go_wp2_with fail
                        go_meet
                        exact ⟨_, rfl, rfl, (by first | exact .inl rfl | exact .inr rfl | exact .inl ⟨rfl, rfl, rfl, rfl⟩), Lib.hid (below_drewN KB.out _), Lib.hid (KT.out.later (below_drewN (Below.refl _ _) _))⟩
                    case rest =>
                      obtain ⟨wv, rfl, rfl, h165, KB8, KT8⟩ := hcut
                      have c13 := KT8.out.cell 2 0 rfl rfl
                      have c14 := KT8.out.cell 1 0 rfl rfl
                      have c9 := KT8.out.cell 4 0 rfl rfl
                      have cl1 := KT8.out.cell 3 1 rfl rfl
                      have c7 := KT8.out.cell 6 0 rfl rfl
                      have cp0 := AX0.out _ KB8.out
                      go_upto_region 30 with fail
                      go_cut [176, 184, 188, 195, 199] from 176 to 205 (fun s176 s184 s188 s195 s199 wx => s176 = .bool false ∧ ((s184 = undef ∧ s188 = undef ∧ s195 = undef ∧ s199 = undef) ∨ s184 = .bool false) ∧ wx = wv)
                      case first => as_aux_lemma =>
                        by_cases m0 : 0 < m
                        · have m1 : (1 : Int) < (m : Int) + 1 := by omega
                          by_cases q2 : t < n
                          · have q2' : (t : Int) < (n : Int) := by omega
                            by_cases q3 : 0 < d
                            · have hE : (E != av) = false := by simp; exact HE4.out m0 q2 q3
                              go_wp2_with fail
                              go_meet
                              exact ⟨rfl, (by first | exact .inl rfl | exact .inr rfl | exact .inl ⟨rfl, rfl, rfl, rfl⟩), rfl⟩
                            · have ok := trivial
                              go_wp2_with fail
                              go_meet
                              exact ⟨rfl, (by first | exact .inl rfl | exact .inr rfl | exact .inl ⟨rfl, rfl, rfl, rfl⟩), rfl⟩
                          · have q2' : ¬ (t : Int) < (n : Int) := by omega
                            go_wp2_with fail
                            go_meet
                            exact ⟨rfl, (by first | exact .inl rfl | exact .inr rfl | exact .inl ⟨rfl, rfl, rfl, rfl⟩), rfl⟩
                        · have m1 : ¬ (1 : Int) < (m : Int) + 1 := by omega
                          go_wp2_with fail
                          go_meet
                          exact ⟨rfl, (by first | exact .inl rfl | exact .inr rfl | exact .inl ⟨rfl, rfl, rfl, rfl⟩), rfl⟩
                      case rest =>
                        obtain ⟨rfl, h184, hwx⟩ := hcut
                        obtain rfl := hwx.symm
                        clear c14 c9 cl1 c7 cp0
                        have BV : Hid (Below w4.heap.size w4 wv) := Lib.hid (bel_tr0 B6.out KB8.out)
                        have TV : Hid (Tab wv [(b12, [.int .i64 (f : Int), .int .i64 (t : Int), .int .i64 W, .int .i64 H]), (b + 2, [.int .i64 av]), (b + 1, [.slice (some ⟨g2, o2, none⟩) gn gc]), (b, [.slice (some ⟨g, o, none⟩) n c]), (b5, [.int .u8 mo])]) := Lib.hid ((((((Tab.nil _).cons (KT8.out 7 _ _ rfl)).cons (KT8.out 6 _ _ rfl)).cons (KT8.out 5 _ _ rfl)).cons (KT8.out 4 _ _ rfl)).cons (KT8.out 3 _ _ rfl))
                        go_wp2_with fail
                        go_roundw
                        case rel => exact ⟨wv.heap.size, 5, _, h140, h165, h184, rfl, rfl, by omega, by omega, TV.out.lt 0 rfl, Lib.hid (bel_tr0 BV.out (bel_newR _ _)), Lib.hid (TV.out.new' _ _ rfl)⟩
                        case measure =>
                          rw [TXE.out]
                          simp [txOf, go_sem]
          · obtain rfl : tx = 5 := by omega
            have KTq : Hid (Tab wx [(b + 2, [.int .i64 av]), (b + 1, [.slice (some ⟨g2, o2, none⟩) gn gc]), (b, [.slice (some ⟨g, o, none⟩) n c]), (b5, [.int .u8 mo])]) := Lib.hid (((((Tab.nil _).cons (KTx.out 5 _ _ rfl)).cons (KTx.out 4 _ _ rfl)).cons (KTx.out 3 _ _ rfl)).cons (KTx.out 2 _ _ rfl))
            go_wp2_with fail
            go_roundw
            case rel => exact ⟨t, i + 1, h140, h165, h184, by simp, by omega, CHn, KBx, KTq⟩
            case measure => simp [intOf]; omega
    · have li' : ¬ (i : Int) < (gn : Int) := by omega
      have FIN : Hid (Below w.heap.size w wr) := Lib.hid (bel_tr0 KB4.out KBr.out)
      go_wp2_with fail
      go_returns
      exact ⟨rfl, FIN.out⟩
end Go.Proofs.Ytmelbgabiklojaa
