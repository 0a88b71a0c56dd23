/- LineGreedy: the law. Made by gen/greb.py. -/
import Derived.Test.YtmelbgabiklojaaGreA
import Derived.WalkKit
import Derived.WalkSpells
import Derived.WalkLawsBesides
import Derived.Handy
import Derived.Lib.Hide
import Derived.Deep.QuietTactic
import Derived.BigQuiet
import Derived.LoopTactic
import Derived.RegionTactic
import Derived.BigRegion
import Derived.Outline
import Derived.Deep.DeepCutAuto
import Derived.Deep.CutBlock
namespace Go.Proofs.Ytmelbgabiklojaa
open Go.RowKit Go.Proofs.Reg Go.Proofs.Big Lin
set_option linter.unusedVariables false
set_option linter.unusedSimpArgs false
set_option maxRecDepth 100000
section
variable {P : Program} {A : Act} {w w' : World} {x : Option Tmp} {ty : TypeId} {ps : String} {af : Array Edge} {gd : Option (Nat × Bool)} {p q r s : Operand} {u v c d e : Value} {t t' : TypeId} {ts : Array TypeId}
theorem run_slice2 (e : A.eval p = u) (f : A.eval q = c) (g : A.eval r = d) (h : (Instr.sliceAt t u (some c) (some d) none).run P w = .ok v w') : (execOp A.eval ⟨x, .slice t p (some q) (some r) none, ty, ps, af, gd⟩).run P w = .ok (.value v) w' := by
  simp only [execOp, e, Option.map_some, f, g, Option.map_none]; exact run_then h
end
theorem run_len1 {A : Act} {w : World} {p : Operand} {a : Option Addr} {n c : Nat} {ty : TypeId} {x : Option Tmp} {ps : String} {af : Array Edge} {gd : Option (Nat × Bool)} (e : A.eval p = .slice a n c) :
    (execOp A.eval ⟨x, .call { callee := .builtin .len, args := #[p], argTypes := #[25] }, ty, ps, af, gd⟩).run Try.prog w = .ok (.value (.int .i64 (n : Int))) w := by
  simp only [execOp, resolve, List.map_toArray, List.map_cons, List.map_nil, e]
  simp [go_sem]
theorem run_max2' {A : Act} {w : World} {p q : Operand} {a b m : Int} {ty : TypeId} {x : Option Tmp} {ps : String} {af : Array Edge} {gd : Option (Nat × Bool)} (e : A.eval p = .int .i64 a) (f : A.eval q = .int .i64 b) (h : max a b = m) :
    (execOp A.eval ⟨x, .call { callee := .builtin .max, args := #[p, q], argTypes := #[2, 2] }, ty, ps, af, gd⟩).run Try.prog w = .ok (.value (.int .i64 m)) w := by
  subst h
  simp only [execOp, resolve, List.map_toArray, List.map_cons, List.map_nil, e, f]
  simp [go_sem]
theorem lk_at' {w : World} {a : Option Addr} {n c : Nat} {l : List L4} (h : KS LK w (.slice a n c) l) {k : Nat} (lt : k < n) : ∃ g o x y z t, a = some ⟨g, o, none⟩ ∧ l[k]? = some (x, y, z, t) ∧ w.cell? ⟨g, o + k * 4, none⟩ = some (.int .i64 x) ∧ w.cell? ⟨g, o + k * 4 + 1, none⟩ = some (.int .i64 y) ∧ w.cell? ⟨g, o + k * 4 + 2, none⟩ = some (.int .i64 z) ∧ w.cell? ⟨g, o + k * 4 + 3, none⟩ = some (.int .i64 t) := by
  obtain ⟨a', n', c', e, hn, hc, hm, h5⟩ := h
  simp only [Value.slice.injEq] at e
  obtain ⟨rfl, rfl, rfl⟩ := e
  obtain ⟨g, o, rfl, hk⟩ := h5 (by omega)
  obtain ⟨⟨x, y, z, t⟩, hr⟩ : ∃ r, l[k]? = some r := ⟨_, List.getElem?_eq_getElem (by omega)⟩
  have H := hk k _ hr
  exact ⟨g, o, x, y, z, t, rfl, hr, H 0 _ rfl, H 1 _ rfl, H 2 _ rfl, H 3 _ rfl⟩
theorem sml_items {l0 : List (Int × Int × Bool)} (hi : ∀ r ∈ l0, InS r) : Sml ((l0.take 40).map smI) := by
  refine ⟨by rw [List.length_map, List.length_take]; omega, fun r hr => ?_⟩
  obtain ⟨q, hq, rfl⟩ := List.mem_map.1 hr
  have := hi q (List.mem_of_mem_take hq)
  exact ⟨this.1.1, this.1.2, this.2.1, this.2.2⟩
theorem inI_items {l0 : List (Int × Int × Bool)} (hi : ∀ r ∈ l0, InS r) : ∀ r ∈ (l0.take 40).map smI, InI r := fun r hr => by
  obtain ⟨q, hq, rfl⟩ := List.mem_map.1 hr
  have := hi q (List.mem_of_mem_take hq)
  obtain ⟨⟨a, b⟩, c, d⟩ := this
  refine ⟨⟨?_, ?_⟩, ⟨?_, ?_⟩, ⟨?_, ?_⟩⟩ <;> simp only [smI] <;> omega
theorem sml_sl {l : List I4} (h : Sml l) (a b : Nat) : Sml (sl l a b) := by
  refine ⟨?_, fun r hr => h.s r (List.mem_of_mem_drop (List.mem_of_mem_take hr))⟩
  have := h.n
  unfold sl; rw [List.length_take, List.length_drop]; omega
theorem wd_sl (l : List I4) {a b : Nat} (h : a ≤ b) (hb : b ≤ l.length) : wd (sl l a b) 0 (b - a) = wd l a b := by
  have e := sl_len (l := l) (a := a) hb
  rw [← wS_wd l _ a b rfl h hb, ← wS_wd (sl l a b) _ 0 (b - a) rfl (Nat.zero_le _) (by rw [e]; exact Nat.le_refl _)]
  congr 1
  unfold sl
  rw [List.drop_zero, Nat.sub_zero, List.take_take, Nat.min_self]
theorem widesub_any (g o n c : Nat) (l : List I4) (hs : Sml l) (f t : Nat) (ft : f ≤ t) (tn : t ≤ n) (hn : n = l.length) (w : World) (h : KS IK w (.slice (some ⟨g, o, none⟩) n c) l) :
    Calls Try.prog 17 #[.slice (some ⟨g, o + f * 4, none⟩) (t - f) (c - f)] w fun e w' => e = .returned (.int .i64 (wd l f t)) ∧ Below w.heap.size w w' := by
  have := wide13_any (some ⟨g, o + f * 4, none⟩) (t - f) (c - f) (sl l f t) (sml_sl hs f t) w (KS.sub h ft tn)
  rw [wd_sl l ft (by omega)] at this
  exact this.mono fun e w' ⟨he, hw⟩ => ⟨he, hw ▸ Below.refl _ _⟩
theorem ch_len {l : List I4} {av v : Int} : ∀ (ls : List L4) (f : Nat), Ch l av v f ls → ls.length + f ≤ l.length
  | [], f, h => by have : f = l.length := h; simp; omega
  | x :: r, f, ⟨h0, h1, h2⟩ => by
    have := ch_len r x.2.1 h2
    have := h1.ft
    rw [List.length_cons]; omega
theorem ch_at {l : List I4} {av v : Int} {ls : List L4} {i at_ f t : Nat} {W H : Int} (h : Ch l av v at_ (ls.drop i)) (hx : ls[i]? = some (f, t, W, H)) : f = at_ ∧ LP l av v f t W ∧ Ch l av v t (ls.drop (i + 1)) := by
  have lt : i < ls.length := (List.getElem?_eq_some_iff.1 hx).1
  rw [List.drop_eq_getElem_cons lt, (List.getElem?_eq_some_iff.1 hx).2] at h
  obtain ⟨h0, h1, h2⟩ := h
  have e : f = at_ := h0
  subst e
  exact ⟨rfl, h1, h2⟩
theorem ch_end {l : List I4} {av v : Int} {ls : List L4} {i at_ : Nat} (h : Ch l av v at_ (ls.drop i)) (hi : ls.length ≤ i) : at_ = l.length := by
  rw [List.drop_of_length_le hi] at h; exact h
set_option maxHeartbeats 16000000 in
theorem law_greedy (a0 : Option Addr) (n0 c0 : Nat) (l0 : List (Int × Int × Bool)) (av : Int) (ha : 0 ≤ av ∧ av ≤ 65535) (w : World) (hW : KS SmK w (.slice a0 n0 c0) l0) (hi : ∀ r ∈ l0, InS r) :
    Calls Try.prog 3 #[.slice a0 n0 c0, .int .u16 av] w fun e w' => e = .returned (.bool true) ∧ Below w.heap.size w w' := by
  have hmf : ∀ (fn : Fn) (first cap : Array Value) (w : World), (Instr.makeFunc fn first cap).run Try.prog w = .ok (.func fn first cap) w := fun _ _ _ _ => rfl
  have SP := Lib.hid speaks13_any
  have HW := Lib.hid hW
  have IT := Lib.hid (fun w h => items13_any a0 n0 c0 l0 hi w h)
  have hs := sml_items hi
  have hin := inI_items hi
  obtain ⟨l, hl⟩ : ∃ l, (l0.take 40).map smI = l := ⟨_, rfl⟩
  rw [hl] at hs hin IT
  have HS := Lib.hid hs
  have HI := Lib.hid hin
  obtain ⟨av0, av1⟩ := ha
  have cv : ∀ wy : World, (convert 23 2 (.int .u16 av)).run Try.prog wy = .ok (.int .i64 av) wy := cv16 av ⟨av0, av1⟩
  clear hW hi hl hin
  go_enter Try.func3, Try.ntmps3
  go_wp2_with fail
  refine (SP.out _).mono ?_
  rintro e w1 ⟨rfl, hb⟩
  have KB0 := Lib.hid hb
  have H1 := Lib.hid (HW.out.later hb)
  clear hb HW
  go_wp2_with fail
  refine (IT.out _ H1.out).mono ?_
  rintro e w2 ⟨u, rfl, k1, hb⟩
  obtain ⟨a, n, c, rfl, hn1, hc1, hm1, _⟩ := id k1
  have KI2 := Lib.hid k1
  have HN : Hid (n = l.length) := Lib.hid hn1
  have n40 : n ≤ 40 := by have := hs.n; omega
  have KB2 := Lib.hid (bel_tr0 KB0.out hb)
  clear hb k1 KB0 H1 IT hn1 hc1 hm1 hs
  go_wp2_with fail
  obtain ⟨b, hbq⟩ : ∃ b, w2.heap.size = b := ⟨_, rfl⟩
  obtain ⟨w3, hw3⟩ : ∃ x, ((((w2.alloc (.cells #[.slice a n c] 25)).alloc (.cells #[.int .i64 av] 2)).alloc (.cells #[.slice none 0 0] 27)).alloc (.cells #[.int .i64 0] 2)).alloc (.cells #[.int .i64 0] 2) = x := ⟨_, rfl⟩
  have T3 : Hid (Tab w3 [(b + 4, [.int .i64 0]), (b + 3, [.int .i64 0]), (b + 2, [.slice none 0 0]), (b + 1, [.int .i64 av]), (b, [.slice a n c])]) := Lib.hid (by
    rw [← hw3, ← hbq]
    exact (((((Tab.nil w2).new' _ _ rfl).new' _ _ (by simp)).new' _ _ (by simp)).new' _ _ (by simp)).new' _ _ (by simp))
  have B3 : Hid (Below w2.heap.size w2 w3) := Lib.hid (by rw [← hw3]; exact bel_tr0 (bel_tr0 (bel_tr0 (bel_tr0 (bel_newR _ _) (bel_newR _ _)) (bel_newR _ _)) (bel_newR _ _)) (bel_newR _ _))
  have KI3 := Lib.hid (KI2.out.later B3.out)
  have AB : Hid (∀ p : Addr, a = some p → 0 < n → p.block < b) := Lib.hid (fun p e hp => by
    obtain ⟨a', n', c', e', hn', _, _, h5⟩ := KI2.out
    simp only [Value.slice.injEq] at e'
    obtain ⟨rfl, rfl, rfl⟩ := e'
    obtain ⟨g, o, rfl, hk⟩ := h5 hp
    obtain rfl := Option.some.inj e
    obtain ⟨r, hr⟩ : ∃ r, l[0]? = some r := ⟨_, List.getElem?_eq_getElem (by omega)⟩
    have := hk 0 r hr 0 _ rfl
    have := World.block_lt_of_cell? w2 _ this
    rw [hbq] at this; exact this)
  rw [hw3]
  simp only [World.size_alloc, hbq, Nat.add_assoc, Nat.reduceAdd]
  have LB : Hid (w.heap.size ≤ b) := Lib.hid (by rw [← hbq]; exact KB2.out.size)
  have BQ : Hid (w2.heap.size = b) := Lib.hid hbq
  clear hw3 hbq
  obtain ⟨ls, v, h1, h2, h3, hv, hch, hone⟩ := greedy HS.out av
  obtain ⟨d, hd⟩ : ∃ d, wd l 0 l.length = d := ⟨_, rfl⟩
  rw [hd] at h3 hv hone
  have WD : Hid (∀ wy, KS IK wy (.slice a n c) l → Calls Try.prog 17 #[.slice a n c] wy fun e w' => e = .returned (.int .i64 d) ∧ Below wy.heap.size wy w') := Lib.hid (fun wy h => (wide13_any a n c l HS.out wy h).mono fun e w' ⟨he, hw⟩ => ⟨by rw [← hd, ← HN.out]; exact he, hw ▸ Below.refl _ _⟩)
  have CH := Lib.hid hch
  have ONE := Lib.hid hone
  have CL := Lib.hid (ch_len ls 0 hch)
  have vd : ¬ d < v := by omega
  rw [← HN.out] at h3
  have NA0 : Hid (∀ p : Addr, a = some p → 0 < n → p.block ∉ [b + 2, b + 3, b + 4]) := Lib.hid (fun p e hp m => by have := AB.out p e hp; simp at m; omega)
  clear hch hone hd hv
  have TR : Hid (Calls Try.prog 12 #[.func (.func 13) #[] #[.pointer (some ⟨b, 0, none⟩), .pointer (some ⟨b + 1, 0, none⟩), .pointer (some ⟨b + 2, 0, none⟩), .pointer (some ⟨b + 3, 0, none⟩), .pointer (some ⟨b + 4, 0, none⟩)]] w3 fun e w' => e = .returned (.int .i64 0) ∧ GrQ (b + 2) (b + 3) (b + 4) w3.heap.size w3 ls v d w') := Lib.hid (lg1_try b (b + 1) (b + 2) (b + 3) (b + 4) a n c l av v d ls (by omega) ⟨by omega, by omega⟩ HI.out h1 h2 h3 w3 (T3.out.cell 4 0 rfl rfl) (T3.out.cell 3 0 rfl rfl) ⟨T3.out.cell 2 0 rfl rfl, T3.out.froz 2 0 rfl rfl⟩ ⟨T3.out.cell 1 0 rfl rfl, T3.out.froz 1 0 rfl rfl⟩ ⟨T3.out.cell 0 0 rfl rfl, T3.out.froz 0 0 rfl rfl⟩ ⟨by omega, by omega, by omega⟩ (by simp) (by simp) NA0.out KI3.out)
  refine TR.out.mono ?_
  rintro e w4 ⟨rfl, hbut, q8, q9, ga, gn, gc, q7, gk, gp⟩
  have B4 : Hid (Below w2.heap.size w2 w4) := Lib.hid (But.below B3.out hbut B3.out.size (fun i hi => by have := BQ.out; simp at hi; omega))
  have KB4 : Hid (Below w.heap.size w w4) := Lib.hid (bel_tr0 KB2.out B4.out)
  have IK4 := Lib.hid (KI2.out.later B4.out)
  have GK := Lib.hid gk
  obtain ⟨gn1, gc1, gm1⟩ := gk.len
  have GN := Lib.hid gn1
  have gn40 : gn ≤ 40 := by have := CL.out; have := HN.out; omega
  have T4 : Hid (Tab w4 [(b + 4, [.int .i64 d]), (b + 3, [.int .i64 v]), (b + 2, [.slice ga gn gc]), (b + 1, [.int .i64 av]), (b, [.slice a n c])]) := Lib.hid (by
    have q5 := (Var.mk (T3.out.cell 3 0 rfl rfl) (T3.out.froz 3 0 rfl rfl)).but hbut (by simp)
    have q6 := (Var.mk (T3.out.cell 4 0 rfl rfl) (T3.out.froz 4 0 rfl rfl)).but hbut (by simp)
    have one : ∀ {x : Nat} {u : Value}, Var w4 ⟨x, 0, none⟩ u → ∀ (i : Nat) (y : Value), [u][i]? = some y → w4.cell? ⟨x, i, none⟩ = some y ∧ w4.frozen? ⟨x, i, none⟩ = false := fun {x u} h i y hy => by
      match i, hy with
      | 0, hy => obtain rfl := Option.some.inj hy; exact ⟨h.c, h.z⟩
      | i + 1, hy => simp at hy
    exact (((((Tab.nil w4).cons (one q6)).cons (one q5)).cons (one q7)).cons (one q8)).cons (one q9))
  clear hbut q7 q8 q9 gk gp T3 B3 KI2 KI3 KB2 B4 TR NA0 AB h1 h2 h3 BQ gn1
  have KB : Hid (Below w4.heap.size w4 w4) := Lib.hid (Below.refl _ _)
  have KT := T4
  have CH0 : Hid (Ch l av v 0 (ls.drop 0)) := Lib.hid CH.out
  go_upto_region 8 with fail
  go_wp2_with fail
  refine wp_region_vals [some (.int .i64 0), some (.bool false), some (.bool false), some (.int .i64 d), some (.slice a n c), some (.int .i64 d), some (.bool false), some (.bool false), some (.bool false), some (.int .i64 v), some (.int .i64 d), some (.bool false), some (.bool false)] (fun Lz _ wy => Below w4.heap.size w4 wy ∧ Tab wy [(b + 4, [.int .i64 d]), (b + 3, [.int .i64 v]), (b + 2, [.slice ga gn gc]), (b + 1, [.int .i64 av]), (b, [.slice a n c])])
    [some 25, some 26, some 27, some 28, some 29, some 30, some 31, some 32, some 33, some 34, some 35, some 36, some 37] (by kernel_rfl) (by kernel_rfl) (by kernel_rfl) (by kernel_rfl) (by kernel_rfl) (by kernel_rfl) ⟨KB.out.drew, KT.out.later ((Below.refl _ _).drew)⟩ (fun i o ho => ?_) (fun Lz vz wz hL hB => ?_)
  · match i, ho with
    | 0, ho =>
      obtain rfl := Option.some.inj ho
      intro Az Lz vz wy Kz Ez hB k
      have e10 : Az.eval (.tmp 10) = .int .i64 0 := Ez.out 10 (by kernel_rfl)
      exact wpo_val (v := .int .i64 0) (run_move e10) (k _ _ rfl hB)
    | 1, ho =>
      obtain rfl := Option.some.inj ho
      intro Az Lz vz wy Kz Ez hB k
      have e25 : Az.eval (.tmp 25) = .int .i64 0 := Ez.dep 0 25 (by kernel_rfl) rfl
      exact wpo_val (v := .bool false) (run_bin e25 rfl (by simp [go_sem]) (by simp [go_sem])) (k _ _ rfl hB)
    | 2, ho =>
      obtain rfl := Option.some.inj ho
      intro Az Lz vz wy Kz Ez hB k
      have e26 : Az.eval (.tmp 26) = .bool false := Ez.dep 1 26 (by kernel_rfl) rfl
      exact wpo_val (v := .bool false) (run_move e26) (k _ _ rfl hB)
    | 3, ho =>
      obtain rfl := Option.some.inj ho
      intro Az Lz vz wy Kz Ez hB k
      have e9 : Az.eval (.tmp 9) = .pointer (some ⟨b + 4, 0, none⟩) := Ez.out 9 (by kernel_rfl)
      have c0_0 := hB.2.cell 0 0 rfl rfl
      exact wpo_val (v := .int .i64 d) (run_load e9 (by simp [go_sem, c0_0])) (k _ _ rfl hB)
    | 4, ho =>
      obtain rfl := Option.some.inj ho
      intro Az Lz vz wy Kz Ez hB k
      have e5 : Az.eval (.tmp 5) = .pointer (some ⟨b, 0, none⟩) := Ez.out 5 (by kernel_rfl)
      have c4_0 := hB.2.cell 4 0 rfl rfl
      exact wpo_val (v := .slice a n c) (run_load e5 (by simp [go_sem, c4_0])) (k _ _ rfl hB)
    | 5, ho =>
      obtain rfl := Option.some.inj ho
      intro Az Lz vz wy Kz Ez hB k
      have e29 : Az.eval (.tmp 29) = .slice a n c := Ez.dep 4 29 (by kernel_rfl) rfl
      refine wpo_call (run_callW (fun _ _ => by kernel_rfl)) (R := fun ez w' => ez = .returned (.int .i64 d) ∧ Below wy.heap.size wy w') ?_ ?_
      · simp only [List.map_toArray, List.map_cons, List.map_nil, eval_const, e29]
        exact WD.out _ (IK4.out.later hB.1)
      · rintro ez w' ⟨rfl, hb⟩
        exact ⟨_, rfl, k _ _ rfl ⟨bel_tr0 hB.1 hb, hB.2.later hb⟩⟩
    | 6, ho =>
      obtain rfl := Option.some.inj ho
      intro Az Lz vz wy Kz Ez hB k
      have e28 : Az.eval (.tmp 28) = .int .i64 d := Ez.dep 3 28 (by kernel_rfl) rfl
      have e30 : Az.eval (.tmp 30) = .int .i64 d := Ez.dep 5 30 (by kernel_rfl) rfl
      exact wpo_val (v := .bool false) (run_bin e28 e30 (by simp [go_sem]) (by simp [go_sem])) (k _ _ rfl hB)
    | 7, ho =>
      obtain rfl := Option.some.inj ho
      intro Az Lz vz wy Kz Ez hB k
      have e27 : Az.eval (.tmp 27) = .bool false := Ez.dep 2 27 (by kernel_rfl) rfl
      have e31 : Az.eval (.tmp 31) = .bool false := Ez.dep 6 31 (by kernel_rfl) rfl
      exact wpo_val (v := .bool false) (run_pickF e27 e31) (k _ _ rfl hB)
    | 8, ho =>
      obtain rfl := Option.some.inj ho
      intro Az Lz vz wy Kz Ez hB k
      have e32 : Az.eval (.tmp 32) = .bool false := Ez.dep 7 32 (by kernel_rfl) rfl
      exact wpo_val (v := .bool false) (run_move e32) (k _ _ rfl hB)
    | 9, ho =>
      obtain rfl := Option.some.inj ho
      intro Az Lz vz wy Kz Ez hB k
      have e8 : Az.eval (.tmp 8) = .pointer (some ⟨b + 3, 0, none⟩) := Ez.out 8 (by kernel_rfl)
      have c1_0 := hB.2.cell 1 0 rfl rfl
      exact wpo_val (v := .int .i64 v) (run_load e8 (by simp [go_sem, c1_0])) (k _ _ rfl hB)
    | 10, ho =>
      obtain rfl := Option.some.inj ho
      intro Az Lz vz wy Kz Ez hB k
      have e9 : Az.eval (.tmp 9) = .pointer (some ⟨b + 4, 0, none⟩) := Ez.out 9 (by kernel_rfl)
      have c0_0 := hB.2.cell 0 0 rfl rfl
      exact wpo_val (v := .int .i64 d) (run_load e9 (by simp [go_sem, c0_0])) (k _ _ rfl hB)
    | 11, ho =>
      obtain rfl := Option.some.inj ho
      intro Az Lz vz wy Kz Ez hB k
      have e34 : Az.eval (.tmp 34) = .int .i64 v := Ez.dep 9 34 (by kernel_rfl) rfl
      have e35 : Az.eval (.tmp 35) = .int .i64 d := Ez.dep 10 35 (by kernel_rfl) rfl
      exact wpo_val (v := .bool false) (run_bin e34 e35 (by simp [go_sem]) (by simp [go_sem, vd])) (k _ _ rfl hB)
    | 12, ho =>
      obtain rfl := Option.some.inj ho
      intro Az Lz vz wy Kz Ez hB k
      have e33 : Az.eval (.tmp 33) = .bool false := Ez.dep 8 33 (by kernel_rfl) rfl
      have e36 : Az.eval (.tmp 36) = .bool false := Ez.dep 11 36 (by kernel_rfl) rfl
      exact wpo_val (v := .bool false) (run_pickF e33 e36) (k _ _ rfl hB)
    | n + 13, ho => simp at ho
  · obtain ⟨hk, hT⟩ := hB
    have KB := Lib.hid hk
    have KT := Lib.hid hT
    clear hk hT hL
    simp only [puts2, mix, Act.put, List.setIfInBounds_toArray, List.set_cons_zero, List.set_cons_succ, Nat.zero_add, Nat.reduceAdd, List.getElem?_cons_zero, List.getElem?_cons_succ]

    clear T4
    go_wp2_with fail
    go_loopw [11, 12] (fun s11 s12 wr => ∃ (at_ i : Nat), s11 = .int .i64 at_ ∧ s12 = .int .i64 i ∧ i ≤ gn ∧ Hid (Ch l av v at_ (ls.drop i)) ∧ Hid (Below w4.heap.size w4 wr) ∧ Hid (Tab wr [(b + 4, [.int .i64 d]), (b + 3, [.int .i64 v]), (b + 2, [.slice ga gn gc]), (b + 1, [.int .i64 av]), (b, [.slice a n c])])) (fun _ s12 _ => gn - (intOf s12).toNat)
    case atStart => exact ⟨0, 0, rfl, rfl, by omega, CH0, KB, KT⟩
    case round =>
      obtain ⟨at_, i, rfl, rfl, ign, CHi, KBr, KTr⟩ := hrel
      have c7 := KTr.out.cell 2 0 rfl rfl
      by_cases li : i < gn
      · have li' : (i : Int) < (gn : Int) := by omega
        obtain ⟨g2, o2, f, t, W, H, rfl, hx, y0, y1, y2, y3⟩ := lk_at' (GK.out.later KBr.out) li
        obtain ⟨rfl, lp, chn⟩ := ch_at CHi.out hx
        have CHn := Lib.hid chn
        have LPh := Lib.hid lp
        have ft := lp.ft
        have tn : t ≤ n := by rw [HN.out]; exact lp.tn
        obtain ⟨g, o, _, _, _, _, rfl, _, _, _, _, _, _⟩ := IK.at IK4.out (show 0 < n by omega)
        have ixl : ∀ wy : World, (Instr.indexAt 27 (.slice (some ⟨g2, o2, none⟩) gn gc) (.int .i64 i)).run Try.prog wy = .ok (.pointer (some ⟨g2, o2 + i * 4, none⟩)) wy := fun wy => by
          have k0 : (0 : Int) ≤ (i : Int) := by omega
          simp [go_sem, k0, li', Addr.add]
          try omega
        clear lp chn hx CHi
        go_upto_region 15 with fail
        obtain ⟨b13, hb13⟩ : ∃ b, wr.heap.size = b := ⟨_, rfl⟩
        obtain ⟨wq, hwq⟩ : ∃ x, wr.alloc (.cells #[.int .i64 (f : Int), .int .i64 (t : Int), .int .i64 W, .int .i64 H] 33) = x := ⟨_, rfl⟩
        have KT : Hid (Tab wq [(b13, [.int .i64 (f : Int), .int .i64 (t : Int), .int .i64 W, .int .i64 H]), (b + 4, [.int .i64 d]), (b + 3, [.int .i64 v]), (b + 2, [.slice (some ⟨g2, o2, none⟩) gn gc]), (b + 1, [.int .i64 av]), (b, [.slice (some ⟨g, o, none⟩) n c])]) := Lib.hid (by rw [← hwq]; exact KTr.out.new' _ _ hb13.symm)
        have KB : Hid (Below w4.heap.size w4 wq) := Lib.hid (by rw [← hwq]; exact bel_tr0 KBr.out (bel_newR _ _))
        rw [hwq]
        try simp only [hb13]
        clear hwq hb13 KTr KBr c7 y0 y1 y2 y3 ixl
        have SLC : Hid (∀ (x y : Nat), x ≤ y → y ≤ n → x < n → ∀ wy : World, (Instr.sliceAt 25 (.slice (some ⟨g, o, none⟩) n c) (some (.int .i64 (x : Int))) (some (.int .i64 (y : Int))) none).run Try.prog wy = .ok (.slice (some ⟨g, o + x * 4, none⟩) (y - x) (c - x)) wy) := Lib.hid (fun x y xy yn xn wy => by
          obtain ⟨_, cn, _⟩ := IK4.out.len
          have k0 : (0 : Int) ≤ (x : Int) := by omega
          have k1 : (x : Int) ≤ (y : Int) := by omega
          have k2 : (y : Int) ≤ (c : Int) := by omega
          have k3 : (0 : Int) ≤ (y : Int) := by omega
          have k4 : ¬ c = x := by omega
          have k5 : ¬ x = c := by omega
          simp [go_sem, k0, k1, k2, k3, k4, k5, xy, Addr.add]
          try omega)
        have WSB : Hid (∀ (x y : Nat), x ≤ y → y ≤ n → ∀ wy, Below w4.heap.size w4 wy → Calls Try.prog 17 #[.slice (some ⟨g, o + x * 4, none⟩) (y - x) (c - x)] wy fun e w' => e = .returned (.int .i64 (wd l x y)) ∧ Below wy.heap.size wy w') := Lib.hid (fun x y xy yn wy hb => widesub_any g o n c l HS.out x y xy yn HN.out wy (IK4.out.later hb))
        obtain ⟨M, qM⟩ : ∃ M, max av v = M := ⟨_, rfl⟩
        have Q5 : Hid (¬ M < W) := Lib.hid (by have := LPh.out.m; rw [qM] at this; omega)
        have LM := Lib.hid qM
        clear qM
        go_cut [101] (fun s101 wx => ∃ wv, wv = wx ∧ s101 = .bool false ∧ Hid (Below w4.heap.size w4 wv) ∧ Hid (Tab wv [(b13, [.int .i64 (f : Int), .int .i64 (t : Int), .int .i64 W, .int .i64 H]), (b + 4, [.int .i64 d]), (b + 3, [.int .i64 v]), (b + 2, [.slice (some ⟨g2, o2, none⟩) gn gc]), (b + 1, [.int .i64 av]), (b, [.slice (some ⟨g, o, none⟩) n c])]))
        case first =>
          have SLC := Lib.hid (SLC.out f t (by omega) tn (by omega))
          have WF := Lib.hid (WSB.out f t (by omega) tn)
          rw [← LPh.out.wv] at WF
          have qM := LM.out
          have q1 : ¬ (t : Int) ≤ (f : Int) := by omega
          have q2 : ¬ (n : Int) < (t : Int) := by omega
          have q5 := Q5.out
          by_cases lt : t < n
          · have q3 : (t : Int) < (n : Int) := by omega
            have IX : Hid (∀ wy : World, (Instr.indexAt 25 (.slice (some ⟨g, o, none⟩) n c) (.int .i64 ((t : Int) - 1))).run Try.prog wy = .ok (.pointer (some ⟨g, o + (t - 1) * 4, none⟩)) wy) := Lib.hid (fun wy => by
              have e : ((t : Int) - 1) = ((t - 1 : Nat) : Int) := by omega
              rw [e]
              have k0 : (0 : Int) ≤ ((t - 1 : Nat) : Int) := by omega
              have k1 : ((t - 1 : Nat) : Int) < (n : Int) := by omega
              simp [go_sem, k0, k1, Addr.add]
              try omega)
            have BK : Hid (∀ wy, Below w4.heap.size w4 wy → wy.cell? ⟨g, o + (t - 1) * 4 + 3, none⟩ = some (.bool true)) := Lib.hid (fun wy hb => by
              obtain ⟨g', o', x, y, z, bb, e1, hit, _, _, _, _, y3⟩ := IK.at (IK4.out.later hb) (show t - 1 < n by omega)
              have := LPh.out.e (by rw [← HN.out]; exact lt)
              rw [hit] at this
              obtain rfl : bb = true := this
              simp only [Option.some.injEq, Addr.mk.injEq, and_true] at e1
              obtain ⟨rfl, rfl⟩ := e1
              exact y3)
            go_wp2_with fail
            refine wp_region_vals [some (.pointer (some ⟨b13, 0, none⟩)), some (.int .i64 (f : Int)), some (.int .i64 (f : Int)), some (.bool false), some (.bool false), some (.pointer (some ⟨b13, 1, none⟩)), some (.int .i64 (t : Int)), some (.int .i64 (f : Int)), some (.bool false), some (.bool false), some (.bool false), some (.pointer (some ⟨b13, 1, none⟩)), some (.int .i64 (t : Int)), some (.slice (some ⟨g, o, none⟩) n c), some (.int .i64 (n : Int)), some (.bool false), some (.bool false), some (.bool false), some (.pointer (some ⟨b13, 2, none⟩)), some (.int .i64 W), some (.slice (some ⟨g, o, none⟩) n c), some (.pointer (some ⟨b13, 0, none⟩)), some (.int .i64 (f : Int)), some (.pointer (some ⟨b13, 1, none⟩)), some (.int .i64 (t : Int)), some (.slice (some ⟨g, o + f * 4, none⟩) (t - f) (c - f)), some (.int .i64 W), some (.bool false), some (.bool false), some (.bool false), some (.pointer (some ⟨b13, 1, none⟩)), some (.int .i64 (t : Int)), some (.slice (some ⟨g, o, none⟩) n c), some (.int .i64 (n : Int)), some (.bool true), some (.bool true), some (.slice (some ⟨g, o, none⟩) n c), some (.pointer (some ⟨b13, 1, none⟩)), some (.int .i64 (t : Int)), some (.int .i64 ((t : Int) - 1)), some (.pointer (some ⟨g, o + (t - 1) * 4, none⟩)), some (.pointer (some ⟨g, o + (t - 1) * 4 + 3, none⟩)), some (.bool true), some (.bool false), some (.bool false), some (.bool false), some (.bool false), some (.pointer (some ⟨b13, 2, none⟩)), some (.int .i64 W), some (.int .i64 av), some (.int .i64 v), some (.int .i64 M), some (.bool false), some (.bool false)] (fun Lz _ wy => Below w4.heap.size w4 wy ∧ Tab wy [(b13, [.int .i64 (f : Int), .int .i64 (t : Int), .int .i64 W, .int .i64 H]), (b + 4, [.int .i64 d]), (b + 3, [.int .i64 v]), (b + 2, [.slice (some ⟨g2, o2, none⟩) gn gc]), (b + 1, [.int .i64 av]), (b, [.slice (some ⟨g, o, none⟩) n c])])
              [some 48, some 49, some 50, some 51, some 52, some 53, some 54, some 55, some 56, some 57, some 58, some 59, some 60, some 61, some 62, some 63, some 64, some 65, some 66, some 67, some 68, some 69, some 70, some 71, some 72, some 73, some 74, some 75, some 76, some 77, some 78, some 79, some 80, some 81, some 82, some 83, some 84, some 85, some 86, some 87, some 88, some 89, some 90, some 91, some 92, some 93, some 94, some 95, some 96, some 97, some 98, some 99, some 100, some 101] (by kernel_rfl) (by kernel_rfl) (by kernel_rfl) (by kernel_rfl) (by kernel_rfl) (by kernel_rfl) ⟨KB.out.drew, KT.out.later ((Below.refl _ _).drew)⟩ (fun i o ho => ?_) (fun Lz vz wz hL hB => ?_)
            · match i, ho with
              | 0, ho =>
                obtain rfl := Option.some.inj ho
                intro Az Lz vz wy Kz Ez hB k
                have e13 : Az.eval (.tmp 13) = .pointer (some ⟨b13, 0, none⟩) := Ez.out 13 (by kernel_rfl)
                exact wpo_val (v := .pointer (some ⟨b13, 0, none⟩)) (run_field e13 (by simp [go_sem])) (k _ _ rfl hB)
              | 1, ho =>
                obtain rfl := Option.some.inj ho
                intro Az Lz vz wy Kz Ez hB k
                have e48 : Az.eval (.tmp 48) = .pointer (some ⟨b13, 0, none⟩) := Ez.dep 0 48 (by kernel_rfl) rfl
                have c0_0 := hB.2.cell 0 0 rfl rfl
                exact wpo_val (v := .int .i64 (f : Int)) (run_load e48 (by simp [go_sem, c0_0])) (k _ _ rfl hB)
              | 2, ho =>
                obtain rfl := Option.some.inj ho
                intro Az Lz vz wy Kz Ez hB k
                have e11 : Az.eval (.tmp 11) = .int .i64 (f : Int) := Ez.out 11 (by kernel_rfl)
                exact wpo_val (v := .int .i64 (f : Int)) (run_move e11) (k _ _ rfl hB)
              | 3, ho =>
                obtain rfl := Option.some.inj ho
                intro Az Lz vz wy Kz Ez hB k
                have e49 : Az.eval (.tmp 49) = .int .i64 (f : Int) := Ez.dep 1 49 (by kernel_rfl) rfl
                have e50 : Az.eval (.tmp 50) = .int .i64 (f : Int) := Ez.dep 2 50 (by kernel_rfl) rfl
                exact wpo_val (v := .bool false) (run_bin e49 e50 (by simp [go_sem]) (by simp [go_sem])) (k _ _ rfl hB)
              | 4, ho =>
                obtain rfl := Option.some.inj ho
                intro Az Lz vz wy Kz Ez hB k
                have e51 : Az.eval (.tmp 51) = .bool false := Ez.dep 3 51 (by kernel_rfl) rfl
                exact wpo_val (v := .bool false) (run_move e51) (k _ _ rfl hB)
              | 5, ho =>
                obtain rfl := Option.some.inj ho
                intro Az Lz vz wy Kz Ez hB k
                have e13 : Az.eval (.tmp 13) = .pointer (some ⟨b13, 0, none⟩) := Ez.out 13 (by kernel_rfl)
                exact wpo_val (v := .pointer (some ⟨b13, 1, none⟩)) (run_field e13 (by simp [go_sem])) (k _ _ rfl hB)
              | 6, ho =>
                obtain rfl := Option.some.inj ho
                intro Az Lz vz wy Kz Ez hB k
                have e53 : Az.eval (.tmp 53) = .pointer (some ⟨b13, 1, none⟩) := Ez.dep 5 53 (by kernel_rfl) rfl
                have c0_1 := hB.2.cell 0 1 rfl rfl
                exact wpo_val (v := .int .i64 (t : Int)) (run_load e53 (by simp [go_sem, c0_1])) (k _ _ rfl hB)
              | 7, ho =>
                obtain rfl := Option.some.inj ho
                intro Az Lz vz wy Kz Ez hB k
                have e11 : Az.eval (.tmp 11) = .int .i64 (f : Int) := Ez.out 11 (by kernel_rfl)
                exact wpo_val (v := .int .i64 (f : Int)) (run_move e11) (k _ _ rfl hB)
              | 8, ho =>
                obtain rfl := Option.some.inj ho
                intro Az Lz vz wy Kz Ez hB k
                have e54 : Az.eval (.tmp 54) = .int .i64 (t : Int) := Ez.dep 6 54 (by kernel_rfl) rfl
                have e55 : Az.eval (.tmp 55) = .int .i64 (f : Int) := Ez.dep 7 55 (by kernel_rfl) rfl
                exact wpo_val (v := .bool false) (run_bin e54 e55 (by simp [go_sem]) (by simp [go_sem]; omega)) (k _ _ rfl hB)
              | 9, ho =>
                obtain rfl := Option.some.inj ho
                intro Az Lz vz wy Kz Ez hB k
                have e52 : Az.eval (.tmp 52) = .bool false := Ez.dep 4 52 (by kernel_rfl) rfl
                have e56 : Az.eval (.tmp 56) = .bool false := Ez.dep 8 56 (by kernel_rfl) rfl
                exact wpo_val (v := .bool false) (run_pickF e52 e56) (k _ _ rfl hB)
              | 10, ho =>
                obtain rfl := Option.some.inj ho
                intro Az Lz vz wy Kz Ez hB k
                have e57 : Az.eval (.tmp 57) = .bool false := Ez.dep 9 57 (by kernel_rfl) rfl
                exact wpo_val (v := .bool false) (run_move e57) (k _ _ rfl hB)
              | 11, ho =>
                obtain rfl := Option.some.inj ho
                intro Az Lz vz wy Kz Ez hB k
                have e13 : Az.eval (.tmp 13) = .pointer (some ⟨b13, 0, none⟩) := Ez.out 13 (by kernel_rfl)
                exact wpo_val (v := .pointer (some ⟨b13, 1, none⟩)) (run_field e13 (by simp [go_sem])) (k _ _ rfl hB)
              | 12, ho =>
                obtain rfl := Option.some.inj ho
                intro Az Lz vz wy Kz Ez hB k
                have e59 : Az.eval (.tmp 59) = .pointer (some ⟨b13, 1, none⟩) := Ez.dep 11 59 (by kernel_rfl) rfl
                have c0_1 := hB.2.cell 0 1 rfl rfl
                exact wpo_val (v := .int .i64 (t : Int)) (run_load e59 (by simp [go_sem, c0_1])) (k _ _ rfl hB)
              | 13, ho =>
                obtain rfl := Option.some.inj ho
                intro Az Lz vz wy Kz Ez hB k
                have e5 : Az.eval (.tmp 5) = .pointer (some ⟨b, 0, none⟩) := Ez.out 5 (by kernel_rfl)
                have c5_0 := hB.2.cell 5 0 rfl rfl
                exact wpo_val (v := .slice (some ⟨g, o, none⟩) n c) (run_load e5 (by simp [go_sem, c5_0])) (k _ _ rfl hB)
              | 14, ho =>
                obtain rfl := Option.some.inj ho
                intro Az Lz vz wy Kz Ez hB k
                have e61 : Az.eval (.tmp 61) = .slice (some ⟨g, o, none⟩) n c := Ez.dep 13 61 (by kernel_rfl) rfl
                exact wpo_val (v := .int .i64 (n : Int)) (run_len1 e61) (k _ _ rfl hB)
              | 15, ho =>
                obtain rfl := Option.some.inj ho
                intro Az Lz vz wy Kz Ez hB k
                have e60 : Az.eval (.tmp 60) = .int .i64 (t : Int) := Ez.dep 12 60 (by kernel_rfl) rfl
                have e62 : Az.eval (.tmp 62) = .int .i64 (n : Int) := Ez.dep 14 62 (by kernel_rfl) rfl
                exact wpo_val (v := .bool false) (run_bin e60 e62 (by simp [go_sem]) (by simp [go_sem]; omega)) (k _ _ rfl hB)
              | 16, ho =>
                obtain rfl := Option.some.inj ho
                intro Az Lz vz wy Kz Ez hB k
                have e58 : Az.eval (.tmp 58) = .bool false := Ez.dep 10 58 (by kernel_rfl) rfl
                have e63 : Az.eval (.tmp 63) = .bool false := Ez.dep 15 63 (by kernel_rfl) rfl
                exact wpo_val (v := .bool false) (run_pickF e58 e63) (k _ _ rfl hB)
              | 17, ho =>
                obtain rfl := Option.some.inj ho
                intro Az Lz vz wy Kz Ez hB k
                have e64 : Az.eval (.tmp 64) = .bool false := Ez.dep 16 64 (by kernel_rfl) rfl
                exact wpo_val (v := .bool false) (run_move e64) (k _ _ rfl hB)
              | 18, ho =>
                obtain rfl := Option.some.inj ho
                intro Az Lz vz wy Kz Ez hB k
                have e13 : Az.eval (.tmp 13) = .pointer (some ⟨b13, 0, none⟩) := Ez.out 13 (by kernel_rfl)
                exact wpo_val (v := .pointer (some ⟨b13, 2, none⟩)) (run_field e13 (by simp [go_sem])) (k _ _ rfl hB)
              | 19, ho =>
                obtain rfl := Option.some.inj ho
                intro Az Lz vz wy Kz Ez hB k
                have e66 : Az.eval (.tmp 66) = .pointer (some ⟨b13, 2, none⟩) := Ez.dep 18 66 (by kernel_rfl) rfl
                have c0_2 := hB.2.cell 0 2 rfl rfl
                exact wpo_val (v := .int .i64 W) (run_load e66 (by simp [go_sem, c0_2])) (k _ _ rfl hB)
              | 20, ho =>
                obtain rfl := Option.some.inj ho
                intro Az Lz vz wy Kz Ez hB k
                have e5 : Az.eval (.tmp 5) = .pointer (some ⟨b, 0, none⟩) := Ez.out 5 (by kernel_rfl)
                have c5_0 := hB.2.cell 5 0 rfl rfl
                exact wpo_val (v := .slice (some ⟨g, o, none⟩) n c) (run_load e5 (by simp [go_sem, c5_0])) (k _ _ rfl hB)
              | 21, ho =>
                obtain rfl := Option.some.inj ho
                intro Az Lz vz wy Kz Ez hB k
                have e13 : Az.eval (.tmp 13) = .pointer (some ⟨b13, 0, none⟩) := Ez.out 13 (by kernel_rfl)
                exact wpo_val (v := .pointer (some ⟨b13, 0, none⟩)) (run_field e13 (by simp [go_sem])) (k _ _ rfl hB)
              | 22, ho =>
                obtain rfl := Option.some.inj ho
                intro Az Lz vz wy Kz Ez hB k
                have e69 : Az.eval (.tmp 69) = .pointer (some ⟨b13, 0, none⟩) := Ez.dep 21 69 (by kernel_rfl) rfl
                have c0_0 := hB.2.cell 0 0 rfl rfl
                exact wpo_val (v := .int .i64 (f : Int)) (run_load e69 (by simp [go_sem, c0_0])) (k _ _ rfl hB)
              | 23, ho =>
                obtain rfl := Option.some.inj ho
                intro Az Lz vz wy Kz Ez hB k
                have e13 : Az.eval (.tmp 13) = .pointer (some ⟨b13, 0, none⟩) := Ez.out 13 (by kernel_rfl)
                exact wpo_val (v := .pointer (some ⟨b13, 1, none⟩)) (run_field e13 (by simp [go_sem])) (k _ _ rfl hB)
              | 24, ho =>
                obtain rfl := Option.some.inj ho
                intro Az Lz vz wy Kz Ez hB k
                have e71 : Az.eval (.tmp 71) = .pointer (some ⟨b13, 1, none⟩) := Ez.dep 23 71 (by kernel_rfl) rfl
                have c0_1 := hB.2.cell 0 1 rfl rfl
                exact wpo_val (v := .int .i64 (t : Int)) (run_load e71 (by simp [go_sem, c0_1])) (k _ _ rfl hB)
              | 25, ho =>
                obtain rfl := Option.some.inj ho
                intro Az Lz vz wy Kz Ez hB k
                have e68 : Az.eval (.tmp 68) = .slice (some ⟨g, o, none⟩) n c := Ez.dep 20 68 (by kernel_rfl) rfl
                have e70 : Az.eval (.tmp 70) = .int .i64 (f : Int) := Ez.dep 22 70 (by kernel_rfl) rfl
                have e72 : Az.eval (.tmp 72) = .int .i64 (t : Int) := Ez.dep 24 72 (by kernel_rfl) rfl
                exact wpo_val (v := .slice (some ⟨g, o + f * 4, none⟩) (t - f) (c - f)) (run_slice2 e68 e70 e72 (SLC.out wy)) (k _ _ rfl hB)
              | 26, ho =>
                obtain rfl := Option.some.inj ho
                intro Az Lz vz wy Kz Ez hB k
                have e73 : Az.eval (.tmp 73) = .slice (some ⟨g, o + f * 4, none⟩) (t - f) (c - f) := Ez.dep 25 73 (by kernel_rfl) rfl
                refine wpo_call (run_callW (fun _ _ => by kernel_rfl)) (R := fun ez w' => ez = .returned (.int .i64 W) ∧ Below wy.heap.size wy w') ?_ ?_
                · simp only [List.map_toArray, List.map_cons, List.map_nil, eval_const, e73]
                  exact WF.out wy hB.1
                · rintro ez w' ⟨rfl, hb⟩
                  exact ⟨_, rfl, k _ _ rfl ⟨bel_tr0 hB.1 hb, hB.2.later hb⟩⟩
              | 27, ho =>
                obtain rfl := Option.some.inj ho
                intro Az Lz vz wy Kz Ez hB k
                have e67 : Az.eval (.tmp 67) = .int .i64 W := Ez.dep 19 67 (by kernel_rfl) rfl
                have e74 : Az.eval (.tmp 74) = .int .i64 W := Ez.dep 26 74 (by kernel_rfl) rfl
                exact wpo_val (v := .bool false) (run_bin e67 e74 (by simp [go_sem]) (by simp [go_sem])) (k _ _ rfl hB)
              | 28, ho =>
                obtain rfl := Option.some.inj ho
                intro Az Lz vz wy Kz Ez hB k
                have e65 : Az.eval (.tmp 65) = .bool false := Ez.dep 17 65 (by kernel_rfl) rfl
                have e75 : Az.eval (.tmp 75) = .bool false := Ez.dep 27 75 (by kernel_rfl) rfl
                exact wpo_val (v := .bool false) (run_pickF e65 e75) (k _ _ rfl hB)
              | 29, ho =>
                obtain rfl := Option.some.inj ho
                intro Az Lz vz wy Kz Ez hB k
                have e76 : Az.eval (.tmp 76) = .bool false := Ez.dep 28 76 (by kernel_rfl) rfl
                exact wpo_val (v := .bool false) (run_move e76) (k _ _ rfl hB)
              | 30, ho =>
                obtain rfl := Option.some.inj ho
                intro Az Lz vz wy Kz Ez hB k
                have e13 : Az.eval (.tmp 13) = .pointer (some ⟨b13, 0, none⟩) := Ez.out 13 (by kernel_rfl)
                exact wpo_val (v := .pointer (some ⟨b13, 1, none⟩)) (run_field e13 (by simp [go_sem])) (k _ _ rfl hB)
              | 31, ho =>
                obtain rfl := Option.some.inj ho
                intro Az Lz vz wy Kz Ez hB k
                have e78 : Az.eval (.tmp 78) = .pointer (some ⟨b13, 1, none⟩) := Ez.dep 30 78 (by kernel_rfl) rfl
                have c0_1 := hB.2.cell 0 1 rfl rfl
                exact wpo_val (v := .int .i64 (t : Int)) (run_load e78 (by simp [go_sem, c0_1])) (k _ _ rfl hB)
              | 32, ho =>
                obtain rfl := Option.some.inj ho
                intro Az Lz vz wy Kz Ez hB k
                have e5 : Az.eval (.tmp 5) = .pointer (some ⟨b, 0, none⟩) := Ez.out 5 (by kernel_rfl)
                have c5_0 := hB.2.cell 5 0 rfl rfl
                exact wpo_val (v := .slice (some ⟨g, o, none⟩) n c) (run_load e5 (by simp [go_sem, c5_0])) (k _ _ rfl hB)
              | 33, ho =>
                obtain rfl := Option.some.inj ho
                intro Az Lz vz wy Kz Ez hB k
                have e80 : Az.eval (.tmp 80) = .slice (some ⟨g, o, none⟩) n c := Ez.dep 32 80 (by kernel_rfl) rfl
                exact wpo_val (v := .int .i64 (n : Int)) (run_len1 e80) (k _ _ rfl hB)
              | 34, ho =>
                obtain rfl := Option.some.inj ho
                intro Az Lz vz wy Kz Ez hB k
                have e79 : Az.eval (.tmp 79) = .int .i64 (t : Int) := Ez.dep 31 79 (by kernel_rfl) rfl
                have e81 : Az.eval (.tmp 81) = .int .i64 (n : Int) := Ez.dep 33 81 (by kernel_rfl) rfl
                exact wpo_val (v := .bool true) (run_bin e79 e81 (by simp [go_sem]) (by simp [go_sem]; omega)) (k _ _ rfl hB)
              | 35, ho =>
                obtain rfl := Option.some.inj ho
                intro Az Lz vz wy Kz Ez hB k
                have e82 : Az.eval (.tmp 82) = .bool true := Ez.dep 34 82 (by kernel_rfl) rfl
                exact wpo_val (v := .bool true) (run_move e82) (k _ _ rfl hB)
              | 36, ho =>
                obtain rfl := Option.some.inj ho
                intro Az Lz vz wy Kz Ez hB k
                have e5 : Az.eval (.tmp 5) = .pointer (some ⟨b, 0, none⟩) := Ez.out 5 (by kernel_rfl)
                have c5_0 := hB.2.cell 5 0 rfl rfl
                exact wpo_val (v := .slice (some ⟨g, o, none⟩) n c) (run_load e5 (by simp [go_sem, c5_0])) (k _ _ rfl hB)
              | 37, ho =>
                obtain rfl := Option.some.inj ho
                intro Az Lz vz wy Kz Ez hB k
                have e13 : Az.eval (.tmp 13) = .pointer (some ⟨b13, 0, none⟩) := Ez.out 13 (by kernel_rfl)
                exact wpo_val (v := .pointer (some ⟨b13, 1, none⟩)) (run_field e13 (by simp [go_sem])) (k _ _ rfl hB)
              | 38, ho =>
                obtain rfl := Option.some.inj ho
                intro Az Lz vz wy Kz Ez hB k
                have e85 : Az.eval (.tmp 85) = .pointer (some ⟨b13, 1, none⟩) := Ez.dep 37 85 (by kernel_rfl) rfl
                have c0_1 := hB.2.cell 0 1 rfl rfl
                exact wpo_val (v := .int .i64 (t : Int)) (run_load e85 (by simp [go_sem, c0_1])) (k _ _ rfl hB)
              | 39, ho =>
                obtain rfl := Option.some.inj ho
                intro Az Lz vz wy Kz Ez hB k
                have e86 : Az.eval (.tmp 86) = .int .i64 (t : Int) := Ez.dep 38 86 (by kernel_rfl) rfl
                exact wpo_val (v := .int .i64 ((t : Int) - 1)) (run_bin e86 rfl (by simp [go_sem]) (by simp [go_sem, IntKind.wrap_i64]; try omega)) (k _ _ rfl hB)
              | 40, ho =>
                obtain rfl := Option.some.inj ho
                intro Az Lz vz wy Kz Ez hB k
                have e84 : Az.eval (.tmp 84) = .slice (some ⟨g, o, none⟩) n c := Ez.dep 36 84 (by kernel_rfl) rfl
                have e87 : Az.eval (.tmp 87) = .int .i64 ((t : Int) - 1) := Ez.dep 39 87 (by kernel_rfl) rfl
                exact wpo_val (v := .pointer (some ⟨g, o + (t - 1) * 4, none⟩)) (run_index e84 e87 (IX.out wy)) (k _ _ rfl hB)
              | 41, ho =>
                obtain rfl := Option.some.inj ho
                intro Az Lz vz wy Kz Ez hB k
                have e88 : Az.eval (.tmp 88) = .pointer (some ⟨g, o + (t - 1) * 4, none⟩) := Ez.dep 40 88 (by kernel_rfl) rfl
                exact wpo_val (v := .pointer (some ⟨g, o + (t - 1) * 4 + 3, none⟩)) (run_field e88 (by simp [go_sem])) (k _ _ rfl hB)
              | 42, ho =>
                obtain rfl := Option.some.inj ho
                intro Az Lz vz wy Kz Ez hB k
                have e89 : Az.eval (.tmp 89) = .pointer (some ⟨g, o + (t - 1) * 4 + 3, none⟩) := Ez.dep 41 89 (by kernel_rfl) rfl
                exact wpo_val (v := .bool true) (run_load e89 (by simp [go_sem, BK.out wy hB.1])) (k _ _ rfl hB)
              | 43, ho =>
                obtain rfl := Option.some.inj ho
                intro Az Lz vz wy Kz Ez hB k
                have e90 : Az.eval (.tmp 90) = .bool true := Ez.dep 42 90 (by kernel_rfl) rfl
                exact wpo_val (v := .bool false) (run_un e90 (by simp [go_sem])) (k _ _ rfl hB)
              | 44, ho =>
                obtain rfl := Option.some.inj ho
                intro Az Lz vz wy Kz Ez hB k
                have e83 : Az.eval (.tmp 83) = .bool true := Ez.dep 35 83 (by kernel_rfl) rfl
                have e91 : Az.eval (.tmp 91) = .bool false := Ez.dep 43 91 (by kernel_rfl) rfl
                exact wpo_val (v := .bool false) (run_pickT e83 e91) (k _ _ rfl hB)
              | 45, ho =>
                obtain rfl := Option.some.inj ho
                intro Az Lz vz wy Kz Ez hB k
                have e77 : Az.eval (.tmp 77) = .bool false := Ez.dep 29 77 (by kernel_rfl) rfl
                have e92 : Az.eval (.tmp 92) = .bool false := Ez.dep 44 92 (by kernel_rfl) rfl
                exact wpo_val (v := .bool false) (run_pickF e77 e92) (k _ _ rfl hB)
              | 46, ho =>
                obtain rfl := Option.some.inj ho
                intro Az Lz vz wy Kz Ez hB k
                have e93 : Az.eval (.tmp 93) = .bool false := Ez.dep 45 93 (by kernel_rfl) rfl
                exact wpo_val (v := .bool false) (run_move e93) (k _ _ rfl hB)
              | 47, ho =>
                obtain rfl := Option.some.inj ho
                intro Az Lz vz wy Kz Ez hB k
                have e13 : Az.eval (.tmp 13) = .pointer (some ⟨b13, 0, none⟩) := Ez.out 13 (by kernel_rfl)
                exact wpo_val (v := .pointer (some ⟨b13, 2, none⟩)) (run_field e13 (by simp [go_sem])) (k _ _ rfl hB)
              | 48, ho =>
                obtain rfl := Option.some.inj ho
                intro Az Lz vz wy Kz Ez hB k
                have e95 : Az.eval (.tmp 95) = .pointer (some ⟨b13, 2, none⟩) := Ez.dep 47 95 (by kernel_rfl) rfl
                have c0_2 := hB.2.cell 0 2 rfl rfl
                exact wpo_val (v := .int .i64 W) (run_load e95 (by simp [go_sem, c0_2])) (k _ _ rfl hB)
              | 49, ho =>
                obtain rfl := Option.some.inj ho
                intro Az Lz vz wy Kz Ez hB k
                have e6 : Az.eval (.tmp 6) = .pointer (some ⟨b + 1, 0, none⟩) := Ez.out 6 (by kernel_rfl)
                have c4_0 := hB.2.cell 4 0 rfl rfl
                exact wpo_val (v := .int .i64 av) (run_load e6 (by simp [go_sem, c4_0])) (k _ _ rfl hB)
              | 50, ho =>
                obtain rfl := Option.some.inj ho
                intro Az Lz vz wy Kz Ez hB k
                have e8 : Az.eval (.tmp 8) = .pointer (some ⟨b + 3, 0, none⟩) := Ez.out 8 (by kernel_rfl)
                have c2_0 := hB.2.cell 2 0 rfl rfl
                exact wpo_val (v := .int .i64 v) (run_load e8 (by simp [go_sem, c2_0])) (k _ _ rfl hB)
              | 51, ho =>
                obtain rfl := Option.some.inj ho
                intro Az Lz vz wy Kz Ez hB k
                have e97 : Az.eval (.tmp 97) = .int .i64 av := Ez.dep 49 97 (by kernel_rfl) rfl
                have e98 : Az.eval (.tmp 98) = .int .i64 v := Ez.dep 50 98 (by kernel_rfl) rfl
                exact wpo_val (v := .int .i64 M) (run_max2' e97 e98 qM) (k _ _ rfl hB)
              | 52, ho =>
                obtain rfl := Option.some.inj ho
                intro Az Lz vz wy Kz Ez hB k
                have e96 : Az.eval (.tmp 96) = .int .i64 W := Ez.dep 48 96 (by kernel_rfl) rfl
                have e99 : Az.eval (.tmp 99) = .int .i64 M := Ez.dep 51 99 (by kernel_rfl) rfl
                exact wpo_val (v := .bool false) (run_bin e96 e99 (by simp [go_sem]) (by simp [go_sem, q5])) (k _ _ rfl hB)
              | 53, ho =>
                obtain rfl := Option.some.inj ho
                intro Az Lz vz wy Kz Ez hB k
                have e94 : Az.eval (.tmp 94) = .bool false := Ez.dep 46 94 (by kernel_rfl) rfl
                have e100 : Az.eval (.tmp 100) = .bool false := Ez.dep 52 100 (by kernel_rfl) rfl
                exact wpo_val (v := .bool false) (run_pickF e94 e100) (k _ _ rfl hB)
              | n + 54, ho => simp at ho
            · obtain ⟨hk, hT⟩ := hB
              have KB := Lib.hid hk
              have KT := Lib.hid hT
              clear hk hT hL
              simp only [puts2, mix, Act.put, List.setIfInBounds_toArray, List.set_cons_zero, List.set_cons_succ, Nat.zero_add, Nat.reduceAdd, List.getElem?_cons_zero, List.getElem?_cons_succ]

              go_wp2_with fail
              go_meet
              exact ⟨_, rfl, rfl, KB, KT⟩
          · have q3n : ¬ (t : Int) < (n : Int) := by omega
            go_wp2_with fail
            refine wp_region_vals [some (.pointer (some ⟨b13, 0, none⟩)), some (.int .i64 (f : Int)), some (.int .i64 (f : Int)), some (.bool false), some (.bool false), some (.pointer (some ⟨b13, 1, none⟩)), some (.int .i64 (t : Int)), some (.int .i64 (f : Int)), some (.bool false), some (.bool false), some (.bool false), some (.pointer (some ⟨b13, 1, none⟩)), some (.int .i64 (t : Int)), some (.slice (some ⟨g, o, none⟩) n c), some (.int .i64 (n : Int)), some (.bool false), some (.bool false), some (.bool false), some (.pointer (some ⟨b13, 2, none⟩)), some (.int .i64 W), some (.slice (some ⟨g, o, none⟩) n c), some (.pointer (some ⟨b13, 0, none⟩)), some (.int .i64 (f : Int)), some (.pointer (some ⟨b13, 1, none⟩)), some (.int .i64 (t : Int)), some (.slice (some ⟨g, o + f * 4, none⟩) (t - f) (c - f)), some (.int .i64 W), some (.bool false), some (.bool false), some (.bool false), some (.pointer (some ⟨b13, 1, none⟩)), some (.int .i64 (t : Int)), some (.slice (some ⟨g, o, none⟩) n c), some (.int .i64 (n : Int)), some (.bool false), some (.bool false), some (undef), some (undef), some (undef), some (undef), some (undef), some (undef), some (undef), some (undef), some (.bool false), some (.bool false), some (.bool false), some (.pointer (some ⟨b13, 2, none⟩)), some (.int .i64 W), some (.int .i64 av), some (.int .i64 v), some (.int .i64 M), some (.bool false), some (.bool false)] (fun Lz _ wy => Below w4.heap.size w4 wy ∧ Tab wy [(b13, [.int .i64 (f : Int), .int .i64 (t : Int), .int .i64 W, .int .i64 H]), (b + 4, [.int .i64 d]), (b + 3, [.int .i64 v]), (b + 2, [.slice (some ⟨g2, o2, none⟩) gn gc]), (b + 1, [.int .i64 av]), (b, [.slice (some ⟨g, o, none⟩) n c])])
              [some 48, some 49, some 50, some 51, some 52, some 53, some 54, some 55, some 56, some 57, some 58, some 59, some 60, some 61, some 62, some 63, some 64, some 65, some 66, some 67, some 68, some 69, some 70, some 71, some 72, some 73, some 74, some 75, some 76, some 77, some 78, some 79, some 80, some 81, some 82, some 83, some 84, some 85, some 86, some 87, some 88, some 89, some 90, some 91, some 92, some 93, some 94, some 95, some 96, some 97, some 98, some 99, some 100, some 101] (by kernel_rfl) (by kernel_rfl) (by kernel_rfl) (by kernel_rfl) (by kernel_rfl) (by kernel_rfl) ⟨KB.out.drew, KT.out.later ((Below.refl _ _).drew)⟩ (fun i o ho => ?_) (fun Lz vz wz hL hB => ?_)
            · match i, ho with
              | 0, ho =>
                obtain rfl := Option.some.inj ho
                intro Az Lz vz wy Kz Ez hB k
                have e13 : Az.eval (.tmp 13) = .pointer (some ⟨b13, 0, none⟩) := Ez.out 13 (by kernel_rfl)
                exact wpo_val (v := .pointer (some ⟨b13, 0, none⟩)) (run_field e13 (by simp [go_sem])) (k _ _ rfl hB)
              | 1, ho =>
                obtain rfl := Option.some.inj ho
                intro Az Lz vz wy Kz Ez hB k
                have e48 : Az.eval (.tmp 48) = .pointer (some ⟨b13, 0, none⟩) := Ez.dep 0 48 (by kernel_rfl) rfl
                have c0_0 := hB.2.cell 0 0 rfl rfl
                exact wpo_val (v := .int .i64 (f : Int)) (run_load e48 (by simp [go_sem, c0_0])) (k _ _ rfl hB)
              | 2, ho =>
                obtain rfl := Option.some.inj ho
                intro Az Lz vz wy Kz Ez hB k
                have e11 : Az.eval (.tmp 11) = .int .i64 (f : Int) := Ez.out 11 (by kernel_rfl)
                exact wpo_val (v := .int .i64 (f : Int)) (run_move e11) (k _ _ rfl hB)
              | 3, ho =>
                obtain rfl := Option.some.inj ho
                intro Az Lz vz wy Kz Ez hB k
                have e49 : Az.eval (.tmp 49) = .int .i64 (f : Int) := Ez.dep 1 49 (by kernel_rfl) rfl
                have e50 : Az.eval (.tmp 50) = .int .i64 (f : Int) := Ez.dep 2 50 (by kernel_rfl) rfl
                exact wpo_val (v := .bool false) (run_bin e49 e50 (by simp [go_sem]) (by simp [go_sem])) (k _ _ rfl hB)
              | 4, ho =>
                obtain rfl := Option.some.inj ho
                intro Az Lz vz wy Kz Ez hB k
                have e51 : Az.eval (.tmp 51) = .bool false := Ez.dep 3 51 (by kernel_rfl) rfl
                exact wpo_val (v := .bool false) (run_move e51) (k _ _ rfl hB)
              | 5, ho =>
                obtain rfl := Option.some.inj ho
                intro Az Lz vz wy Kz Ez hB k
                have e13 : Az.eval (.tmp 13) = .pointer (some ⟨b13, 0, none⟩) := Ez.out 13 (by kernel_rfl)
                exact wpo_val (v := .pointer (some ⟨b13, 1, none⟩)) (run_field e13 (by simp [go_sem])) (k _ _ rfl hB)
              | 6, ho =>
                obtain rfl := Option.some.inj ho
                intro Az Lz vz wy Kz Ez hB k
                have e53 : Az.eval (.tmp 53) = .pointer (some ⟨b13, 1, none⟩) := Ez.dep 5 53 (by kernel_rfl) rfl
                have c0_1 := hB.2.cell 0 1 rfl rfl
                exact wpo_val (v := .int .i64 (t : Int)) (run_load e53 (by simp [go_sem, c0_1])) (k _ _ rfl hB)
              | 7, ho =>
                obtain rfl := Option.some.inj ho
                intro Az Lz vz wy Kz Ez hB k
                have e11 : Az.eval (.tmp 11) = .int .i64 (f : Int) := Ez.out 11 (by kernel_rfl)
                exact wpo_val (v := .int .i64 (f : Int)) (run_move e11) (k _ _ rfl hB)
              | 8, ho =>
                obtain rfl := Option.some.inj ho
                intro Az Lz vz wy Kz Ez hB k
                have e54 : Az.eval (.tmp 54) = .int .i64 (t : Int) := Ez.dep 6 54 (by kernel_rfl) rfl
                have e55 : Az.eval (.tmp 55) = .int .i64 (f : Int) := Ez.dep 7 55 (by kernel_rfl) rfl
                exact wpo_val (v := .bool false) (run_bin e54 e55 (by simp [go_sem]) (by simp [go_sem]; omega)) (k _ _ rfl hB)
              | 9, ho =>
                obtain rfl := Option.some.inj ho
                intro Az Lz vz wy Kz Ez hB k
                have e52 : Az.eval (.tmp 52) = .bool false := Ez.dep 4 52 (by kernel_rfl) rfl
                have e56 : Az.eval (.tmp 56) = .bool false := Ez.dep 8 56 (by kernel_rfl) rfl
                exact wpo_val (v := .bool false) (run_pickF e52 e56) (k _ _ rfl hB)
              | 10, ho =>
                obtain rfl := Option.some.inj ho
                intro Az Lz vz wy Kz Ez hB k
                have e57 : Az.eval (.tmp 57) = .bool false := Ez.dep 9 57 (by kernel_rfl) rfl
                exact wpo_val (v := .bool false) (run_move e57) (k _ _ rfl hB)
              | 11, ho =>
                obtain rfl := Option.some.inj ho
                intro Az Lz vz wy Kz Ez hB k
                have e13 : Az.eval (.tmp 13) = .pointer (some ⟨b13, 0, none⟩) := Ez.out 13 (by kernel_rfl)
                exact wpo_val (v := .pointer (some ⟨b13, 1, none⟩)) (run_field e13 (by simp [go_sem])) (k _ _ rfl hB)
              | 12, ho =>
                obtain rfl := Option.some.inj ho
                intro Az Lz vz wy Kz Ez hB k
                have e59 : Az.eval (.tmp 59) = .pointer (some ⟨b13, 1, none⟩) := Ez.dep 11 59 (by kernel_rfl) rfl
                have c0_1 := hB.2.cell 0 1 rfl rfl
                exact wpo_val (v := .int .i64 (t : Int)) (run_load e59 (by simp [go_sem, c0_1])) (k _ _ rfl hB)
              | 13, ho =>
                obtain rfl := Option.some.inj ho
                intro Az Lz vz wy Kz Ez hB k
                have e5 : Az.eval (.tmp 5) = .pointer (some ⟨b, 0, none⟩) := Ez.out 5 (by kernel_rfl)
                have c5_0 := hB.2.cell 5 0 rfl rfl
                exact wpo_val (v := .slice (some ⟨g, o, none⟩) n c) (run_load e5 (by simp [go_sem, c5_0])) (k _ _ rfl hB)
              | 14, ho =>
                obtain rfl := Option.some.inj ho
                intro Az Lz vz wy Kz Ez hB k
                have e61 : Az.eval (.tmp 61) = .slice (some ⟨g, o, none⟩) n c := Ez.dep 13 61 (by kernel_rfl) rfl
                exact wpo_val (v := .int .i64 (n : Int)) (run_len1 e61) (k _ _ rfl hB)
              | 15, ho =>
                obtain rfl := Option.some.inj ho
                intro Az Lz vz wy Kz Ez hB k
                have e60 : Az.eval (.tmp 60) = .int .i64 (t : Int) := Ez.dep 12 60 (by kernel_rfl) rfl
                have e62 : Az.eval (.tmp 62) = .int .i64 (n : Int) := Ez.dep 14 62 (by kernel_rfl) rfl
                exact wpo_val (v := .bool false) (run_bin e60 e62 (by simp [go_sem]) (by simp [go_sem]; omega)) (k _ _ rfl hB)
              | 16, ho =>
                obtain rfl := Option.some.inj ho
                intro Az Lz vz wy Kz Ez hB k
                have e58 : Az.eval (.tmp 58) = .bool false := Ez.dep 10 58 (by kernel_rfl) rfl
                have e63 : Az.eval (.tmp 63) = .bool false := Ez.dep 15 63 (by kernel_rfl) rfl
                exact wpo_val (v := .bool false) (run_pickF e58 e63) (k _ _ rfl hB)
              | 17, ho =>
                obtain rfl := Option.some.inj ho
                intro Az Lz vz wy Kz Ez hB k
                have e64 : Az.eval (.tmp 64) = .bool false := Ez.dep 16 64 (by kernel_rfl) rfl
                exact wpo_val (v := .bool false) (run_move e64) (k _ _ rfl hB)
              | 18, ho =>
                obtain rfl := Option.some.inj ho
                intro Az Lz vz wy Kz Ez hB k
                have e13 : Az.eval (.tmp 13) = .pointer (some ⟨b13, 0, none⟩) := Ez.out 13 (by kernel_rfl)
                exact wpo_val (v := .pointer (some ⟨b13, 2, none⟩)) (run_field e13 (by simp [go_sem])) (k _ _ rfl hB)
              | 19, ho =>
                obtain rfl := Option.some.inj ho
                intro Az Lz vz wy Kz Ez hB k
                have e66 : Az.eval (.tmp 66) = .pointer (some ⟨b13, 2, none⟩) := Ez.dep 18 66 (by kernel_rfl) rfl
                have c0_2 := hB.2.cell 0 2 rfl rfl
                exact wpo_val (v := .int .i64 W) (run_load e66 (by simp [go_sem, c0_2])) (k _ _ rfl hB)
              | 20, ho =>
                obtain rfl := Option.some.inj ho
                intro Az Lz vz wy Kz Ez hB k
                have e5 : Az.eval (.tmp 5) = .pointer (some ⟨b, 0, none⟩) := Ez.out 5 (by kernel_rfl)
                have c5_0 := hB.2.cell 5 0 rfl rfl
                exact wpo_val (v := .slice (some ⟨g, o, none⟩) n c) (run_load e5 (by simp [go_sem, c5_0])) (k _ _ rfl hB)
              | 21, ho =>
                obtain rfl := Option.some.inj ho
                intro Az Lz vz wy Kz Ez hB k
                have e13 : Az.eval (.tmp 13) = .pointer (some ⟨b13, 0, none⟩) := Ez.out 13 (by kernel_rfl)
                exact wpo_val (v := .pointer (some ⟨b13, 0, none⟩)) (run_field e13 (by simp [go_sem])) (k _ _ rfl hB)
              | 22, ho =>
                obtain rfl := Option.some.inj ho
                intro Az Lz vz wy Kz Ez hB k
                have e69 : Az.eval (.tmp 69) = .pointer (some ⟨b13, 0, none⟩) := Ez.dep 21 69 (by kernel_rfl) rfl
                have c0_0 := hB.2.cell 0 0 rfl rfl
                exact wpo_val (v := .int .i64 (f : Int)) (run_load e69 (by simp [go_sem, c0_0])) (k _ _ rfl hB)
              | 23, ho =>
                obtain rfl := Option.some.inj ho
                intro Az Lz vz wy Kz Ez hB k
                have e13 : Az.eval (.tmp 13) = .pointer (some ⟨b13, 0, none⟩) := Ez.out 13 (by kernel_rfl)
                exact wpo_val (v := .pointer (some ⟨b13, 1, none⟩)) (run_field e13 (by simp [go_sem])) (k _ _ rfl hB)
              | 24, ho =>
                obtain rfl := Option.some.inj ho
                intro Az Lz vz wy Kz Ez hB k
                have e71 : Az.eval (.tmp 71) = .pointer (some ⟨b13, 1, none⟩) := Ez.dep 23 71 (by kernel_rfl) rfl
                have c0_1 := hB.2.cell 0 1 rfl rfl
                exact wpo_val (v := .int .i64 (t : Int)) (run_load e71 (by simp [go_sem, c0_1])) (k _ _ rfl hB)
              | 25, ho =>
                obtain rfl := Option.some.inj ho
                intro Az Lz vz wy Kz Ez hB k
                have e68 : Az.eval (.tmp 68) = .slice (some ⟨g, o, none⟩) n c := Ez.dep 20 68 (by kernel_rfl) rfl
                have e70 : Az.eval (.tmp 70) = .int .i64 (f : Int) := Ez.dep 22 70 (by kernel_rfl) rfl
                have e72 : Az.eval (.tmp 72) = .int .i64 (t : Int) := Ez.dep 24 72 (by kernel_rfl) rfl
                exact wpo_val (v := .slice (some ⟨g, o + f * 4, none⟩) (t - f) (c - f)) (run_slice2 e68 e70 e72 (SLC.out wy)) (k _ _ rfl hB)
              | 26, ho =>
                obtain rfl := Option.some.inj ho
                intro Az Lz vz wy Kz Ez hB k
                have e73 : Az.eval (.tmp 73) = .slice (some ⟨g, o + f * 4, none⟩) (t - f) (c - f) := Ez.dep 25 73 (by kernel_rfl) rfl
                refine wpo_call (run_callW (fun _ _ => by kernel_rfl)) (R := fun ez w' => ez = .returned (.int .i64 W) ∧ Below wy.heap.size wy w') ?_ ?_
                · simp only [List.map_toArray, List.map_cons, List.map_nil, eval_const, e73]
                  exact WF.out wy hB.1
                · rintro ez w' ⟨rfl, hb⟩
                  exact ⟨_, rfl, k _ _ rfl ⟨bel_tr0 hB.1 hb, hB.2.later hb⟩⟩
              | 27, ho =>
                obtain rfl := Option.some.inj ho
                intro Az Lz vz wy Kz Ez hB k
                have e67 : Az.eval (.tmp 67) = .int .i64 W := Ez.dep 19 67 (by kernel_rfl) rfl
                have e74 : Az.eval (.tmp 74) = .int .i64 W := Ez.dep 26 74 (by kernel_rfl) rfl
                exact wpo_val (v := .bool false) (run_bin e67 e74 (by simp [go_sem]) (by simp [go_sem])) (k _ _ rfl hB)
              | 28, ho =>
                obtain rfl := Option.some.inj ho
                intro Az Lz vz wy Kz Ez hB k
                have e65 : Az.eval (.tmp 65) = .bool false := Ez.dep 17 65 (by kernel_rfl) rfl
                have e75 : Az.eval (.tmp 75) = .bool false := Ez.dep 27 75 (by kernel_rfl) rfl
                exact wpo_val (v := .bool false) (run_pickF e65 e75) (k _ _ rfl hB)
              | 29, ho =>
                obtain rfl := Option.some.inj ho
                intro Az Lz vz wy Kz Ez hB k
                have e76 : Az.eval (.tmp 76) = .bool false := Ez.dep 28 76 (by kernel_rfl) rfl
                exact wpo_val (v := .bool false) (run_move e76) (k _ _ rfl hB)
              | 30, ho =>
                obtain rfl := Option.some.inj ho
                intro Az Lz vz wy Kz Ez hB k
                have e13 : Az.eval (.tmp 13) = .pointer (some ⟨b13, 0, none⟩) := Ez.out 13 (by kernel_rfl)
                exact wpo_val (v := .pointer (some ⟨b13, 1, none⟩)) (run_field e13 (by simp [go_sem])) (k _ _ rfl hB)
              | 31, ho =>
                obtain rfl := Option.some.inj ho
                intro Az Lz vz wy Kz Ez hB k
                have e78 : Az.eval (.tmp 78) = .pointer (some ⟨b13, 1, none⟩) := Ez.dep 30 78 (by kernel_rfl) rfl
                have c0_1 := hB.2.cell 0 1 rfl rfl
                exact wpo_val (v := .int .i64 (t : Int)) (run_load e78 (by simp [go_sem, c0_1])) (k _ _ rfl hB)
              | 32, ho =>
                obtain rfl := Option.some.inj ho
                intro Az Lz vz wy Kz Ez hB k
                have e5 : Az.eval (.tmp 5) = .pointer (some ⟨b, 0, none⟩) := Ez.out 5 (by kernel_rfl)
                have c5_0 := hB.2.cell 5 0 rfl rfl
                exact wpo_val (v := .slice (some ⟨g, o, none⟩) n c) (run_load e5 (by simp [go_sem, c5_0])) (k _ _ rfl hB)
              | 33, ho =>
                obtain rfl := Option.some.inj ho
                intro Az Lz vz wy Kz Ez hB k
                have e80 : Az.eval (.tmp 80) = .slice (some ⟨g, o, none⟩) n c := Ez.dep 32 80 (by kernel_rfl) rfl
                exact wpo_val (v := .int .i64 (n : Int)) (run_len1 e80) (k _ _ rfl hB)
              | 34, ho =>
                obtain rfl := Option.some.inj ho
                intro Az Lz vz wy Kz Ez hB k
                have e79 : Az.eval (.tmp 79) = .int .i64 (t : Int) := Ez.dep 31 79 (by kernel_rfl) rfl
                have e81 : Az.eval (.tmp 81) = .int .i64 (n : Int) := Ez.dep 33 81 (by kernel_rfl) rfl
                exact wpo_val (v := .bool false) (run_bin e79 e81 (by simp [go_sem]) (by simp [go_sem]; omega)) (k _ _ rfl hB)
              | 35, ho =>
                obtain rfl := Option.some.inj ho
                intro Az Lz vz wy Kz Ez hB k
                have e82 : Az.eval (.tmp 82) = .bool false := Ez.dep 34 82 (by kernel_rfl) rfl
                exact wpo_val (v := .bool false) (run_move e82) (k _ _ rfl hB)
              | 36, ho =>
                obtain rfl := Option.some.inj ho
                exact ⟨rfl, fun Lz vz wy h => h⟩
              | 37, ho =>
                obtain rfl := Option.some.inj ho
                exact ⟨rfl, fun Lz vz wy h => h⟩
              | 38, ho =>
                obtain rfl := Option.some.inj ho
                exact ⟨rfl, fun Lz vz wy h => h⟩
              | 39, ho =>
                obtain rfl := Option.some.inj ho
                exact ⟨rfl, fun Lz vz wy h => h⟩
              | 40, ho =>
                obtain rfl := Option.some.inj ho
                exact ⟨rfl, fun Lz vz wy h => h⟩
              | 41, ho =>
                obtain rfl := Option.some.inj ho
                exact ⟨rfl, fun Lz vz wy h => h⟩
              | 42, ho =>
                obtain rfl := Option.some.inj ho
                exact ⟨rfl, fun Lz vz wy h => h⟩
              | 43, ho =>
                obtain rfl := Option.some.inj ho
                exact ⟨rfl, fun Lz vz wy h => h⟩
              | 44, ho =>
                obtain rfl := Option.some.inj ho
                intro Az Lz vz wy Kz Ez hB k
                have e83 : Az.eval (.tmp 83) = .bool false := Ez.dep 35 83 (by kernel_rfl) rfl
                have e91 : Az.eval (.tmp 91) = undef := Ez.dep 43 91 (by kernel_rfl) rfl
                exact wpo_val (v := .bool false) (run_pickF e83 rfl) (k _ _ rfl hB)
              | 45, ho =>
                obtain rfl := Option.some.inj ho
                intro Az Lz vz wy Kz Ez hB k
                have e77 : Az.eval (.tmp 77) = .bool false := Ez.dep 29 77 (by kernel_rfl) rfl
                have e92 : Az.eval (.tmp 92) = .bool false := Ez.dep 44 92 (by kernel_rfl) rfl
                exact wpo_val (v := .bool false) (run_pickF e77 e92) (k _ _ rfl hB)
              | 46, ho =>
                obtain rfl := Option.some.inj ho
                intro Az Lz vz wy Kz Ez hB k
                have e93 : Az.eval (.tmp 93) = .bool false := Ez.dep 45 93 (by kernel_rfl) rfl
                exact wpo_val (v := .bool false) (run_move e93) (k _ _ rfl hB)
              | 47, ho =>
                obtain rfl := Option.some.inj ho
                intro Az Lz vz wy Kz Ez hB k
                have e13 : Az.eval (.tmp 13) = .pointer (some ⟨b13, 0, none⟩) := Ez.out 13 (by kernel_rfl)
                exact wpo_val (v := .pointer (some ⟨b13, 2, none⟩)) (run_field e13 (by simp [go_sem])) (k _ _ rfl hB)
              | 48, ho =>
                obtain rfl := Option.some.inj ho
                intro Az Lz vz wy Kz Ez hB k
                have e95 : Az.eval (.tmp 95) = .pointer (some ⟨b13, 2, none⟩) := Ez.dep 47 95 (by kernel_rfl) rfl
                have c0_2 := hB.2.cell 0 2 rfl rfl
                exact wpo_val (v := .int .i64 W) (run_load e95 (by simp [go_sem, c0_2])) (k _ _ rfl hB)
              | 49, ho =>
                obtain rfl := Option.some.inj ho
                intro Az Lz vz wy Kz Ez hB k
                have e6 : Az.eval (.tmp 6) = .pointer (some ⟨b + 1, 0, none⟩) := Ez.out 6 (by kernel_rfl)
                have c4_0 := hB.2.cell 4 0 rfl rfl
                exact wpo_val (v := .int .i64 av) (run_load e6 (by simp [go_sem, c4_0])) (k _ _ rfl hB)
              | 50, ho =>
                obtain rfl := Option.some.inj ho
                intro Az Lz vz wy Kz Ez hB k
                have e8 : Az.eval (.tmp 8) = .pointer (some ⟨b + 3, 0, none⟩) := Ez.out 8 (by kernel_rfl)
                have c2_0 := hB.2.cell 2 0 rfl rfl
                exact wpo_val (v := .int .i64 v) (run_load e8 (by simp [go_sem, c2_0])) (k _ _ rfl hB)
              | 51, ho =>
                obtain rfl := Option.some.inj ho
                intro Az Lz vz wy Kz Ez hB k
                have e97 : Az.eval (.tmp 97) = .int .i64 av := Ez.dep 49 97 (by kernel_rfl) rfl
                have e98 : Az.eval (.tmp 98) = .int .i64 v := Ez.dep 50 98 (by kernel_rfl) rfl
                exact wpo_val (v := .int .i64 M) (run_max2' e97 e98 qM) (k _ _ rfl hB)
              | 52, ho =>
                obtain rfl := Option.some.inj ho
                intro Az Lz vz wy Kz Ez hB k
                have e96 : Az.eval (.tmp 96) = .int .i64 W := Ez.dep 48 96 (by kernel_rfl) rfl
                have e99 : Az.eval (.tmp 99) = .int .i64 M := Ez.dep 51 99 (by kernel_rfl) rfl
                exact wpo_val (v := .bool false) (run_bin e96 e99 (by simp [go_sem]) (by simp [go_sem, q5])) (k _ _ rfl hB)
              | 53, ho =>
                obtain rfl := Option.some.inj ho
                intro Az Lz vz wy Kz Ez hB k
                have e94 : Az.eval (.tmp 94) = .bool false := Ez.dep 46 94 (by kernel_rfl) rfl
                have e100 : Az.eval (.tmp 100) = .bool false := Ez.dep 52 100 (by kernel_rfl) rfl
                exact wpo_val (v := .bool false) (run_pickF e94 e100) (k _ _ rfl hB)
              | n + 54, ho => simp at ho
            · obtain ⟨hk, hT⟩ := hB
              have KB := Lib.hid hk
              have KT := Lib.hid hT
              clear hk hT hL
              simp only [puts2, mix, Act.put, List.setIfInBounds_toArray, List.set_cons_zero, List.set_cons_succ, Nat.zero_add, Nat.reduceAdd, List.getElem?_cons_zero, List.getElem?_cons_succ]

              go_wp2_with fail
              go_meet
              exact ⟨_, rfl, rfl, KB, KT⟩
        case rest =>
          obtain ⟨wv, rfl, rfl, KBv, KTv⟩ := hcut
          clear KB KT Q5 LM
          have c0 := KTv.out.cell 0 0 rfl rfl
          have c1 := KTv.out.cell 0 1 rfl rfl
          have c5 := KTv.out.cell 5 0 rfl rfl
          go_upto_block 2 with fail
          go_cut [14] (fun s14 wx => ∃ s : Nat, s14 = .int .i64 s ∧ 1 ≤ s ∧ s ≤ 41 ∧ Hid (av < W → s = 1) ∧ wx = wv)
          case first =>
            go_wp2_with fail
            go_loopw [14, 15] (fun s14 s15 wx => ∃ (s k : Nat), s14 = .int .i64 s ∧ s15 = .int .i64 k ∧ f ≤ k ∧ k < t ∧ 1 ≤ s ∧ s + f ≤ k + 1 ∧ Hid (av < W → s = 1) ∧ wx = wv) (fun _ s15 _ => t - (intOf s15).toNat)
            case atStart => exact ⟨1, f, rfl, rfl, by omega, by omega, by omega, by omega, Lib.hid (fun _ => rfl), rfl⟩
            case round =>
              obtain ⟨s, k, rfl, rfl, fk, kt, s1, sk, HSG, hw⟩ := hrel
              obtain rfl := hw.symm
              by_cases l2 : k + 1 < t
              · have l2' : (k : Int) + 1 < (t : Int) := by omega
                obtain ⟨g', o', x, y, z, bb, e1, hit, _, z0, z1, z2, z3⟩ := IK.at (IK4.out.later KBv.out) (show k < n by omega)
                simp only [Option.some.injEq, Addr.mk.injEq, and_true] at e1
                obtain ⟨rfl, rfl⟩ := e1
                have ixk : ∀ wy : World, (Instr.indexAt 25 (.slice (some ⟨g, o, none⟩) n c) (.int .i64 (k : Int))).run Try.prog wy = .ok (.pointer (some ⟨g, o + k * 4, none⟩)) wy := fun wy => by
                  have k0 : (0 : Int) ≤ (k : Int) := by omega
                  have k1 : (k : Int) < (n : Int) := by omega
                  simp [go_sem, k0, k1, Addr.add]
                  try omega
                have NB : Hid (bb = true → ¬ av < W) := Lib.hid (fun h hw => by
                  rcases LPh.out.s with q | q
                  · omega
                  · have := q k fk l2
                    rw [hit, h] at this; cases this)
                clear hit z0 z1 z2
                cases bb
                · go_wp2_with fail
                  go_roundw
                  case rel => exact ⟨s, k + 1, rfl, by simp, by omega, by omega, by omega, by omega, HSG, (by first | rfl | trivial)⟩
                  case measure => simp [intOf]; omega
                · have nb := NB.out rfl
                  go_wp2_with fail
                  go_roundw
                  case rel => exact ⟨s + 1, k + 1, by simp, by simp, by omega, by omega, by omega, by omega, Lib.hid (fun h => absurd h nb), (by first | rfl | trivial)⟩
                  case measure => simp [intOf]; omega
              · have l2' : ¬ (k : Int) + 1 < (t : Int) := by omega
                go_wp2_with fail
                go_meet
                exact ⟨s, rfl, s1, by omega, HSG, rfl⟩
          case rest =>
            obtain ⟨s, rfl, s1, s41, HSG, hw⟩ := hcut
            obtain rfl := hw.symm
            go_upto_block 4 with fail
            go_cut [16] (fun s16 wx => ∃ nx : Nat, s16 = .int .i64 nx ∧ t ≤ nx ∧ nx ≤ n ∧ Hid (t < n → min (nx + 1) n = segE l t) ∧ wx = wv)
            case first =>
              go_wp2_with fail
              go_loopw [16] (fun s16 wx => ∃ nx : Nat, s16 = .int .i64 nx ∧ t ≤ nx ∧ nx ≤ n ∧ Hid (segE l nx = segE l t) ∧ wx = wv) (fun s16 _ => n - (intOf s16).toNat)
              case atStart => exact ⟨t, rfl, by omega, by omega, Lib.hid rfl, rfl⟩
              case round =>
                obtain ⟨nx, rfl, tx, xn, HE, hw⟩ := hrel
                obtain rfl := hw.symm
                by_cases l2 : nx < n
                · have l2' : (nx : Int) < (n : Int) := by omega
                  obtain ⟨g', o', x, y, z, bb, e1, hit, _, z0, z1, z2, z3⟩ := IK.at (IK4.out.later KBv.out) l2
                  simp only [Option.some.injEq, Addr.mk.injEq, and_true] at e1
                  obtain ⟨rfl, rfl⟩ := e1
                  have ixk : ∀ wy : World, (Instr.indexAt 25 (.slice (some ⟨g, o, none⟩) n c) (.int .i64 (nx : Int))).run Try.prog wy = .ok (.pointer (some ⟨g, o + nx * 4, none⟩)) wy := fun wy => by
                    have k0 : (0 : Int) ≤ (nx : Int) := by omega
                    simp [go_sem, k0, l2', Addr.add]
                    try omega
                  have HT := Lib.hid hit
                  clear hit z0 z1 z2
                  cases bb
                  · have HE2 : Hid (segE l (nx + 1) = segE l t) := Lib.hid (by rw [← HE.out]; exact (segE_next l nx (by rw [← HN.out]; exact l2) (by rw [HT.out])).symm)
                    go_wp2_with fail
                    go_roundw
                    case rel => exact ⟨nx + 1, by simp, by omega, by omega, HE2, (by first | rfl | trivial)⟩
                    case measure => simp [intOf]; omega
                  · have HE2 : Hid (min (nx + 1) n = segE l t) := Lib.hid (by rw [← HE.out, segE_brk l nx (by rw [← HN.out]; exact l2) (by rw [HT.out])]; omega)
                    go_wp2_with fail
                    go_meet
                    exact ⟨nx, rfl, tx, xn, Lib.hid (fun _ => HE2.out), rfl⟩
                · have l2' : ¬ (nx : Int) < (n : Int) := by omega
                  have HE2 : Hid (min (nx + 1) n = segE l t) := Lib.hid (by rw [← HE.out, segE_out l nx (by rw [← HN.out]; omega), ← HN.out]; omega)
                  go_wp2_with fail
                  go_meet
                  exact ⟨nx, rfl, tx, xn, Lib.hid (fun _ => HE2.out), rfl⟩
            case rest =>
              obtain ⟨nx, rfl, tx, xn, HX, hw⟩ := hcut
              obtain rfl := hw.symm
              have mn : min ((nx : Int) + 1) (n : Int) = ((min (nx + 1) n : Nat) : Int) := by omega
              go_upto_region 27 with fail
              obtain ⟨ne, hne⟩ : ∃ m, min (nx + 1) n = m := ⟨_, rfl⟩
              try rw [mn]
              rw [hne] at HX ⊢
              have nen : ne ≤ n := by omega
              have tne : t ≤ ne := by omega
              clear mn hne tx xn c0 c1 c5
              have KB := KBv
              have KT := KTv
              have s0 : (1 : Int) ≤ (s : Int) := by omega
              have HG : Hid (t < n → ¬ wd l f ne ≤ av) := Lib.hid (fun h => by
                have e := HX.out h
                have := LPh.out.g (by rw [← HN.out]; exact h)
                rw [← e] at this; omega)
              by_cases big : 1 < s
              · have s1' : (1 : Int) < (s : Int) := by omega
                have q6 : ¬ av < W := fun h => by have := HSG.out h; omega
                by_cases lt : t < n
                · have q3 : (t : Int) < (n : Int) := by omega
                  have SLN := Lib.hid (SLC.out f ne (by omega) nen (by omega))
                  have WN := Lib.hid (WSB.out f ne (by omega) nen)
                  have q7 := HG.out lt
                  obtain ⟨Wn, hWn⟩ : ∃ x, wd l f ne = x := ⟨_, rfl⟩
                  rw [hWn] at WN q7
                  clear hWn KBv KTv
                  go_wp2_with fail
                  refine wp_region_vals [some (.int .i64 s), some (.bool true), some (.bool true), some (.pointer (some ⟨b13, 2, none⟩)), some (.int .i64 W), some (.int .i64 av), some (.bool false), some (.bool false), some (.bool false), some (.pointer (some ⟨b13, 1, none⟩)), some (.int .i64 (t : Int)), some (.slice (some ⟨g, o, none⟩) n c), some (.int .i64 (n : Int)), some (.bool true), some (.bool true), some (.slice (some ⟨g, o, none⟩) n c), some (.pointer (some ⟨b13, 0, none⟩)), some (.int .i64 (f : Int)), some (.int .i64 (ne : Int)), some (.slice (some ⟨g, o + f * 4, none⟩) (ne - f) (c - f)), some (.int .i64 Wn), some (.int .i64 av), some (.bool false), some (.bool false), some (.bool false)] (fun Lz _ wy => Below w4.heap.size w4 wy ∧ Tab wy [(b13, [.int .i64 (f : Int), .int .i64 (t : Int), .int .i64 W, .int .i64 H]), (b + 4, [.int .i64 d]), (b + 3, [.int .i64 v]), (b + 2, [.slice (some ⟨g2, o2, none⟩) gn gc]), (b + 1, [.int .i64 av]), (b, [.slice (some ⟨g, o, none⟩) n c])])
                    [some 139, some 140, some 141, some 142, some 143, some 144, some 145, some 146, some 147, some 148, some 149, some 150, some 151, some 152, some 153, some 154, some 155, some 156, some 157, some 158, some 159, some 160, some 161, some 162, some 163] (by kernel_rfl) (by kernel_rfl) (by kernel_rfl) (by kernel_rfl) (by kernel_rfl) (by kernel_rfl) ⟨KB.out.drew, KT.out.later ((Below.refl _ _).drew)⟩ (fun i o ho => ?_) (fun Lz vz wz hL hB => ?_)
                  · match i, ho with
                    | 0, ho =>
                      obtain rfl := Option.some.inj ho
                      intro Az Lz vz wy Kz Ez hB k
                      have e14 : Az.eval (.tmp 14) = .int .i64 s := Ez.out 14 (by kernel_rfl)
                      exact wpo_val (v := .int .i64 s) (run_move e14) (k _ _ rfl hB)
                    | 1, ho =>
                      obtain rfl := Option.some.inj ho
                      intro Az Lz vz wy Kz Ez hB k
                      have e139 : Az.eval (.tmp 139) = .int .i64 s := Ez.dep 0 139 (by kernel_rfl) rfl
                      exact wpo_val (v := .bool true) (run_bin e139 rfl (by simp [go_sem]) (by simp [go_sem]; omega)) (k _ _ rfl hB)
                    | 2, ho =>
                      obtain rfl := Option.some.inj ho
                      intro Az Lz vz wy Kz Ez hB k
                      have e140 : Az.eval (.tmp 140) = .bool true := Ez.dep 1 140 (by kernel_rfl) rfl
                      exact wpo_val (v := .bool true) (run_move e140) (k _ _ rfl hB)
                    | 3, ho =>
                      obtain rfl := Option.some.inj ho
                      intro Az Lz vz wy Kz Ez hB k
                      have e13 : Az.eval (.tmp 13) = .pointer (some ⟨b13, 0, none⟩) := Ez.out 13 (by kernel_rfl)
                      exact wpo_val (v := .pointer (some ⟨b13, 2, none⟩)) (run_field e13 (by simp [go_sem])) (k _ _ rfl hB)
                    | 4, ho =>
                      obtain rfl := Option.some.inj ho
                      intro Az Lz vz wy Kz Ez hB k
                      have e142 : Az.eval (.tmp 142) = .pointer (some ⟨b13, 2, none⟩) := Ez.dep 3 142 (by kernel_rfl) rfl
                      have c0_2 := hB.2.cell 0 2 rfl rfl
                      exact wpo_val (v := .int .i64 W) (run_load e142 (by simp [go_sem, c0_2])) (k _ _ rfl hB)
                    | 5, ho =>
                      obtain rfl := Option.some.inj ho
                      intro Az Lz vz wy Kz Ez hB k
                      have e6 : Az.eval (.tmp 6) = .pointer (some ⟨b + 1, 0, none⟩) := Ez.out 6 (by kernel_rfl)
                      have c4_0 := hB.2.cell 4 0 rfl rfl
                      exact wpo_val (v := .int .i64 av) (run_load e6 (by simp [go_sem, c4_0])) (k _ _ rfl hB)
                    | 6, ho =>
                      obtain rfl := Option.some.inj ho
                      intro Az Lz vz wy Kz Ez hB k
                      have e143 : Az.eval (.tmp 143) = .int .i64 W := Ez.dep 4 143 (by kernel_rfl) rfl
                      have e144 : Az.eval (.tmp 144) = .int .i64 av := Ez.dep 5 144 (by kernel_rfl) rfl
                      exact wpo_val (v := .bool false) (run_bin e143 e144 (by simp [go_sem]) (by simp [go_sem, q6])) (k _ _ rfl hB)
                    | 7, ho =>
                      obtain rfl := Option.some.inj ho
                      intro Az Lz vz wy Kz Ez hB k
                      have e141 : Az.eval (.tmp 141) = .bool true := Ez.dep 2 141 (by kernel_rfl) rfl
                      have e145 : Az.eval (.tmp 145) = .bool false := Ez.dep 6 145 (by kernel_rfl) rfl
                      exact wpo_val (v := .bool false) (run_pickT e141 e145) (k _ _ rfl hB)
                    | 8, ho =>
                      obtain rfl := Option.some.inj ho
                      intro Az Lz vz wy Kz Ez hB k
                      have e146 : Az.eval (.tmp 146) = .bool false := Ez.dep 7 146 (by kernel_rfl) rfl
                      exact wpo_val (v := .bool false) (run_move e146) (k _ _ rfl hB)
                    | 9, ho =>
                      obtain rfl := Option.some.inj ho
                      intro Az Lz vz wy Kz Ez hB k
                      have e13 : Az.eval (.tmp 13) = .pointer (some ⟨b13, 0, none⟩) := Ez.out 13 (by kernel_rfl)
                      exact wpo_val (v := .pointer (some ⟨b13, 1, none⟩)) (run_field e13 (by simp [go_sem])) (k _ _ rfl hB)
                    | 10, ho =>
                      obtain rfl := Option.some.inj ho
                      intro Az Lz vz wy Kz Ez hB k
                      have e148 : Az.eval (.tmp 148) = .pointer (some ⟨b13, 1, none⟩) := Ez.dep 9 148 (by kernel_rfl) rfl
                      have c0_1 := hB.2.cell 0 1 rfl rfl
                      exact wpo_val (v := .int .i64 (t : Int)) (run_load e148 (by simp [go_sem, c0_1])) (k _ _ rfl hB)
                    | 11, ho =>
                      obtain rfl := Option.some.inj ho
                      intro Az Lz vz wy Kz Ez hB k
                      have e5 : Az.eval (.tmp 5) = .pointer (some ⟨b, 0, none⟩) := Ez.out 5 (by kernel_rfl)
                      have c5_0 := hB.2.cell 5 0 rfl rfl
                      exact wpo_val (v := .slice (some ⟨g, o, none⟩) n c) (run_load e5 (by simp [go_sem, c5_0])) (k _ _ rfl hB)
                    | 12, ho =>
                      obtain rfl := Option.some.inj ho
                      intro Az Lz vz wy Kz Ez hB k
                      have e150 : Az.eval (.tmp 150) = .slice (some ⟨g, o, none⟩) n c := Ez.dep 11 150 (by kernel_rfl) rfl
                      exact wpo_val (v := .int .i64 (n : Int)) (run_len1 e150) (k _ _ rfl hB)
                    | 13, ho =>
                      obtain rfl := Option.some.inj ho
                      intro Az Lz vz wy Kz Ez hB k
                      have e149 : Az.eval (.tmp 149) = .int .i64 (t : Int) := Ez.dep 10 149 (by kernel_rfl) rfl
                      have e151 : Az.eval (.tmp 151) = .int .i64 (n : Int) := Ez.dep 12 151 (by kernel_rfl) rfl
                      exact wpo_val (v := .bool true) (run_bin e149 e151 (by simp [go_sem]) (by simp [go_sem]; omega)) (k _ _ rfl hB)
                    | 14, ho =>
                      obtain rfl := Option.some.inj ho
                      intro Az Lz vz wy Kz Ez hB k
                      have e152 : Az.eval (.tmp 152) = .bool true := Ez.dep 13 152 (by kernel_rfl) rfl
                      exact wpo_val (v := .bool true) (run_move e152) (k _ _ rfl hB)
                    | 15, ho =>
                      obtain rfl := Option.some.inj ho
                      intro Az Lz vz wy Kz Ez hB k
                      have e5 : Az.eval (.tmp 5) = .pointer (some ⟨b, 0, none⟩) := Ez.out 5 (by kernel_rfl)
                      have c5_0 := hB.2.cell 5 0 rfl rfl
                      exact wpo_val (v := .slice (some ⟨g, o, none⟩) n c) (run_load e5 (by simp [go_sem, c5_0])) (k _ _ rfl hB)
                    | 16, ho =>
                      obtain rfl := Option.some.inj ho
                      intro Az Lz vz wy Kz Ez hB k
                      have e13 : Az.eval (.tmp 13) = .pointer (some ⟨b13, 0, none⟩) := Ez.out 13 (by kernel_rfl)
                      exact wpo_val (v := .pointer (some ⟨b13, 0, none⟩)) (run_field e13 (by simp [go_sem])) (k _ _ rfl hB)
                    | 17, ho =>
                      obtain rfl := Option.some.inj ho
                      intro Az Lz vz wy Kz Ez hB k
                      have e155 : Az.eval (.tmp 155) = .pointer (some ⟨b13, 0, none⟩) := Ez.dep 16 155 (by kernel_rfl) rfl
                      have c0_0 := hB.2.cell 0 0 rfl rfl
                      exact wpo_val (v := .int .i64 (f : Int)) (run_load e155 (by simp [go_sem, c0_0])) (k _ _ rfl hB)
                    | 18, ho =>
                      obtain rfl := Option.some.inj ho
                      intro Az Lz vz wy Kz Ez hB k
                      have e16 : Az.eval (.tmp 16) = .int .i64 (ne : Int) := Ez.out 16 (by kernel_rfl)
                      exact wpo_val (v := .int .i64 (ne : Int)) (run_move e16) (k _ _ rfl hB)
                    | 19, ho =>
                      obtain rfl := Option.some.inj ho
                      intro Az Lz vz wy Kz Ez hB k
                      have e154 : Az.eval (.tmp 154) = .slice (some ⟨g, o, none⟩) n c := Ez.dep 15 154 (by kernel_rfl) rfl
                      have e156 : Az.eval (.tmp 156) = .int .i64 (f : Int) := Ez.dep 17 156 (by kernel_rfl) rfl
                      have e157 : Az.eval (.tmp 157) = .int .i64 (ne : Int) := Ez.dep 18 157 (by kernel_rfl) rfl
                      exact wpo_val (v := .slice (some ⟨g, o + f * 4, none⟩) (ne - f) (c - f)) (run_slice2 e154 e156 e157 (SLN.out wy)) (k _ _ rfl hB)
                    | 20, ho =>
                      obtain rfl := Option.some.inj ho
                      intro Az Lz vz wy Kz Ez hB k
                      have e158 : Az.eval (.tmp 158) = .slice (some ⟨g, o + f * 4, none⟩) (ne - f) (c - f) := Ez.dep 19 158 (by kernel_rfl) rfl
                      refine wpo_call (run_callW (fun _ _ => by kernel_rfl)) (R := fun ez w' => ez = .returned (.int .i64 Wn) ∧ Below wy.heap.size wy w') ?_ ?_
                      · simp only [List.map_toArray, List.map_cons, List.map_nil, eval_const, e158]
                        exact WN.out wy hB.1
                      · rintro ez w' ⟨rfl, hb⟩
                        exact ⟨_, rfl, k _ _ rfl ⟨bel_tr0 hB.1 hb, hB.2.later hb⟩⟩
                    | 21, ho =>
                      obtain rfl := Option.some.inj ho
                      intro Az Lz vz wy Kz Ez hB k
                      have e6 : Az.eval (.tmp 6) = .pointer (some ⟨b + 1, 0, none⟩) := Ez.out 6 (by kernel_rfl)
                      have c4_0 := hB.2.cell 4 0 rfl rfl
                      exact wpo_val (v := .int .i64 av) (run_load e6 (by simp [go_sem, c4_0])) (k _ _ rfl hB)
                    | 22, ho =>
                      obtain rfl := Option.some.inj ho
                      intro Az Lz vz wy Kz Ez hB k
                      have e159 : Az.eval (.tmp 159) = .int .i64 Wn := Ez.dep 20 159 (by kernel_rfl) rfl
                      have e160 : Az.eval (.tmp 160) = .int .i64 av := Ez.dep 21 160 (by kernel_rfl) rfl
                      exact wpo_val (v := .bool false) (run_bin e159 e160 (by simp [go_sem]) (by simp [go_sem, q7])) (k _ _ rfl hB)
                    | 23, ho =>
                      obtain rfl := Option.some.inj ho
                      intro Az Lz vz wy Kz Ez hB k
                      have e153 : Az.eval (.tmp 153) = .bool true := Ez.dep 14 153 (by kernel_rfl) rfl
                      have e161 : Az.eval (.tmp 161) = .bool false := Ez.dep 22 161 (by kernel_rfl) rfl
                      exact wpo_val (v := .bool false) (run_pickT e153 e161) (k _ _ rfl hB)
                    | 24, ho =>
                      obtain rfl := Option.some.inj ho
                      intro Az Lz vz wy Kz Ez hB k
                      have e147 : Az.eval (.tmp 147) = .bool false := Ez.dep 8 147 (by kernel_rfl) rfl
                      have e162 : Az.eval (.tmp 162) = .bool false := Ez.dep 23 162 (by kernel_rfl) rfl
                      exact wpo_val (v := .bool false) (run_pickF e147 e162) (k _ _ rfl hB)
                    | n + 25, ho => simp at ho
                  · obtain ⟨hk, hT⟩ := hB
                    have KB := Lib.hid hk
                    have KT := Lib.hid hT
                    clear hk hT hL
                    simp only [puts2, mix, Act.put, List.setIfInBounds_toArray, List.set_cons_zero, List.set_cons_succ, Nat.zero_add, Nat.reduceAdd, List.getElem?_cons_zero, List.getElem?_cons_succ]

                    have c1 := KT.out.cell 0 1 rfl rfl
                    have KTn : Hid (Tab wz [(b + 4, [.int .i64 d]), (b + 3, [.int .i64 v]), (b + 2, [.slice (some ⟨g2, o2, none⟩) gn gc]), (b + 1, [.int .i64 av]), (b, [.slice (some ⟨g, o, none⟩) n c])]) := Lib.hid (((((Tab.nil _).cons (KT.out 5 _ _ rfl)).cons (KT.out 4 _ _ rfl)).cons (KT.out 3 _ _ rfl)).cons (KT.out 2 _ _ rfl) |>.cons (KT.out 1 _ _ rfl))
                    go_wp2_with fail
                    go_roundw
                    case rel => exact ⟨t, i + 1, rfl, by simp, by omega, CHn, KB, KTn⟩
                    case measure => simp [intOf]; omega
                · have q3n : ¬ (t : Int) < (n : Int) := by omega
                  clear KBv KTv
                  go_wp2_with fail
                  refine wp_region_vals [some (.int .i64 s), some (.bool true), some (.bool true), some (.pointer (some ⟨b13, 2, none⟩)), some (.int .i64 W), some (.int .i64 av), some (.bool false), some (.bool false), some (.bool false), some (.pointer (some ⟨b13, 1, none⟩)), some (.int .i64 (t : Int)), some (.slice (some ⟨g, o, none⟩) n c), some (.int .i64 (n : Int)), some (.bool false), some (.bool false), some (undef), some (undef), some (undef), some (undef), some (undef), some (undef), some (undef), some (undef), some (.bool false), some (.bool false)] (fun Lz _ wy => Below w4.heap.size w4 wy ∧ Tab wy [(b13, [.int .i64 (f : Int), .int .i64 (t : Int), .int .i64 W, .int .i64 H]), (b + 4, [.int .i64 d]), (b + 3, [.int .i64 v]), (b + 2, [.slice (some ⟨g2, o2, none⟩) gn gc]), (b + 1, [.int .i64 av]), (b, [.slice (some ⟨g, o, none⟩) n c])])
                    [some 139, some 140, some 141, some 142, some 143, some 144, some 145, some 146, some 147, some 148, some 149, some 150, some 151, some 152, some 153, some 154, some 155, some 156, some 157, some 158, some 159, some 160, some 161, some 162, some 163] (by kernel_rfl) (by kernel_rfl) (by kernel_rfl) (by kernel_rfl) (by kernel_rfl) (by kernel_rfl) ⟨KB.out.drew, KT.out.later ((Below.refl _ _).drew)⟩ (fun i o ho => ?_) (fun Lz vz wz hL hB => ?_)
                  · match i, ho with
                    | 0, ho =>
                      obtain rfl := Option.some.inj ho
                      intro Az Lz vz wy Kz Ez hB k
                      have e14 : Az.eval (.tmp 14) = .int .i64 s := Ez.out 14 (by kernel_rfl)
                      exact wpo_val (v := .int .i64 s) (run_move e14) (k _ _ rfl hB)
                    | 1, ho =>
                      obtain rfl := Option.some.inj ho
                      intro Az Lz vz wy Kz Ez hB k
                      have e139 : Az.eval (.tmp 139) = .int .i64 s := Ez.dep 0 139 (by kernel_rfl) rfl
                      exact wpo_val (v := .bool true) (run_bin e139 rfl (by simp [go_sem]) (by simp [go_sem]; omega)) (k _ _ rfl hB)
                    | 2, ho =>
                      obtain rfl := Option.some.inj ho
                      intro Az Lz vz wy Kz Ez hB k
                      have e140 : Az.eval (.tmp 140) = .bool true := Ez.dep 1 140 (by kernel_rfl) rfl
                      exact wpo_val (v := .bool true) (run_move e140) (k _ _ rfl hB)
                    | 3, ho =>
                      obtain rfl := Option.some.inj ho
                      intro Az Lz vz wy Kz Ez hB k
                      have e13 : Az.eval (.tmp 13) = .pointer (some ⟨b13, 0, none⟩) := Ez.out 13 (by kernel_rfl)
                      exact wpo_val (v := .pointer (some ⟨b13, 2, none⟩)) (run_field e13 (by simp [go_sem])) (k _ _ rfl hB)
                    | 4, ho =>
                      obtain rfl := Option.some.inj ho
                      intro Az Lz vz wy Kz Ez hB k
                      have e142 : Az.eval (.tmp 142) = .pointer (some ⟨b13, 2, none⟩) := Ez.dep 3 142 (by kernel_rfl) rfl
                      have c0_2 := hB.2.cell 0 2 rfl rfl
                      exact wpo_val (v := .int .i64 W) (run_load e142 (by simp [go_sem, c0_2])) (k _ _ rfl hB)
                    | 5, ho =>
                      obtain rfl := Option.some.inj ho
                      intro Az Lz vz wy Kz Ez hB k
                      have e6 : Az.eval (.tmp 6) = .pointer (some ⟨b + 1, 0, none⟩) := Ez.out 6 (by kernel_rfl)
                      have c4_0 := hB.2.cell 4 0 rfl rfl
                      exact wpo_val (v := .int .i64 av) (run_load e6 (by simp [go_sem, c4_0])) (k _ _ rfl hB)
                    | 6, ho =>
                      obtain rfl := Option.some.inj ho
                      intro Az Lz vz wy Kz Ez hB k
                      have e143 : Az.eval (.tmp 143) = .int .i64 W := Ez.dep 4 143 (by kernel_rfl) rfl
                      have e144 : Az.eval (.tmp 144) = .int .i64 av := Ez.dep 5 144 (by kernel_rfl) rfl
                      exact wpo_val (v := .bool false) (run_bin e143 e144 (by simp [go_sem]) (by simp [go_sem, q6])) (k _ _ rfl hB)
                    | 7, ho =>
                      obtain rfl := Option.some.inj ho
                      intro Az Lz vz wy Kz Ez hB k
                      have e141 : Az.eval (.tmp 141) = .bool true := Ez.dep 2 141 (by kernel_rfl) rfl
                      have e145 : Az.eval (.tmp 145) = .bool false := Ez.dep 6 145 (by kernel_rfl) rfl
                      exact wpo_val (v := .bool false) (run_pickT e141 e145) (k _ _ rfl hB)
                    | 8, ho =>
                      obtain rfl := Option.some.inj ho
                      intro Az Lz vz wy Kz Ez hB k
                      have e146 : Az.eval (.tmp 146) = .bool false := Ez.dep 7 146 (by kernel_rfl) rfl
                      exact wpo_val (v := .bool false) (run_move e146) (k _ _ rfl hB)
                    | 9, ho =>
                      obtain rfl := Option.some.inj ho
                      intro Az Lz vz wy Kz Ez hB k
                      have e13 : Az.eval (.tmp 13) = .pointer (some ⟨b13, 0, none⟩) := Ez.out 13 (by kernel_rfl)
                      exact wpo_val (v := .pointer (some ⟨b13, 1, none⟩)) (run_field e13 (by simp [go_sem])) (k _ _ rfl hB)
                    | 10, ho =>
                      obtain rfl := Option.some.inj ho
                      intro Az Lz vz wy Kz Ez hB k
                      have e148 : Az.eval (.tmp 148) = .pointer (some ⟨b13, 1, none⟩) := Ez.dep 9 148 (by kernel_rfl) rfl
                      have c0_1 := hB.2.cell 0 1 rfl rfl
                      exact wpo_val (v := .int .i64 (t : Int)) (run_load e148 (by simp [go_sem, c0_1])) (k _ _ rfl hB)
                    | 11, ho =>
                      obtain rfl := Option.some.inj ho
                      intro Az Lz vz wy Kz Ez hB k
                      have e5 : Az.eval (.tmp 5) = .pointer (some ⟨b, 0, none⟩) := Ez.out 5 (by kernel_rfl)
                      have c5_0 := hB.2.cell 5 0 rfl rfl
                      exact wpo_val (v := .slice (some ⟨g, o, none⟩) n c) (run_load e5 (by simp [go_sem, c5_0])) (k _ _ rfl hB)
                    | 12, ho =>
                      obtain rfl := Option.some.inj ho
                      intro Az Lz vz wy Kz Ez hB k
                      have e150 : Az.eval (.tmp 150) = .slice (some ⟨g, o, none⟩) n c := Ez.dep 11 150 (by kernel_rfl) rfl
                      exact wpo_val (v := .int .i64 (n : Int)) (run_len1 e150) (k _ _ rfl hB)
                    | 13, ho =>
                      obtain rfl := Option.some.inj ho
                      intro Az Lz vz wy Kz Ez hB k
                      have e149 : Az.eval (.tmp 149) = .int .i64 (t : Int) := Ez.dep 10 149 (by kernel_rfl) rfl
                      have e151 : Az.eval (.tmp 151) = .int .i64 (n : Int) := Ez.dep 12 151 (by kernel_rfl) rfl
                      exact wpo_val (v := .bool false) (run_bin e149 e151 (by simp [go_sem]) (by simp [go_sem]; omega)) (k _ _ rfl hB)
                    | 14, ho =>
                      obtain rfl := Option.some.inj ho
                      intro Az Lz vz wy Kz Ez hB k
                      have e152 : Az.eval (.tmp 152) = .bool false := Ez.dep 13 152 (by kernel_rfl) rfl
                      exact wpo_val (v := .bool false) (run_move e152) (k _ _ rfl hB)
                    | 15, ho =>
                      obtain rfl := Option.some.inj ho
                      exact ⟨rfl, fun Lz vz wy h => h⟩
                    | 16, ho =>
                      obtain rfl := Option.some.inj ho
                      exact ⟨rfl, fun Lz vz wy h => h⟩
                    | 17, ho =>
                      obtain rfl := Option.some.inj ho
                      exact ⟨rfl, fun Lz vz wy h => h⟩
                    | 18, ho =>
                      obtain rfl := Option.some.inj ho
                      exact ⟨rfl, fun Lz vz wy h => h⟩
                    | 19, ho =>
                      obtain rfl := Option.some.inj ho
                      exact ⟨rfl, fun Lz vz wy h => h⟩
                    | 20, ho =>
                      obtain rfl := Option.some.inj ho
                      exact ⟨rfl, fun Lz vz wy h => h⟩
                    | 21, ho =>
                      obtain rfl := Option.some.inj ho
                      exact ⟨rfl, fun Lz vz wy h => h⟩
                    | 22, ho =>
                      obtain rfl := Option.some.inj ho
                      exact ⟨rfl, fun Lz vz wy h => h⟩
                    | 23, ho =>
                      obtain rfl := Option.some.inj ho
                      intro Az Lz vz wy Kz Ez hB k
                      have e153 : Az.eval (.tmp 153) = .bool false := Ez.dep 14 153 (by kernel_rfl) rfl
                      have e161 : Az.eval (.tmp 161) = undef := Ez.dep 22 161 (by kernel_rfl) rfl
                      exact wpo_val (v := .bool false) (run_pickF e153 rfl) (k _ _ rfl hB)
                    | 24, ho =>
                      obtain rfl := Option.some.inj ho
                      intro Az Lz vz wy Kz Ez hB k
                      have e147 : Az.eval (.tmp 147) = .bool false := Ez.dep 8 147 (by kernel_rfl) rfl
                      have e162 : Az.eval (.tmp 162) = .bool false := Ez.dep 23 162 (by kernel_rfl) rfl
                      exact wpo_val (v := .bool false) (run_pickF e147 e162) (k _ _ rfl hB)
                    | n + 25, ho => simp at ho
                  · obtain ⟨hk, hT⟩ := hB
                    have KB := Lib.hid hk
                    have KT := Lib.hid hT
                    clear hk hT hL
                    simp only [puts2, mix, Act.put, List.setIfInBounds_toArray, List.set_cons_zero, List.set_cons_succ, Nat.zero_add, Nat.reduceAdd, List.getElem?_cons_zero, List.getElem?_cons_succ]

                    have c1 := KT.out.cell 0 1 rfl rfl
                    have KTn : Hid (Tab wz [(b + 4, [.int .i64 d]), (b + 3, [.int .i64 v]), (b + 2, [.slice (some ⟨g2, o2, none⟩) gn gc]), (b + 1, [.int .i64 av]), (b, [.slice (some ⟨g, o, none⟩) n c])]) := Lib.hid (((((Tab.nil _).cons (KT.out 5 _ _ rfl)).cons (KT.out 4 _ _ rfl)).cons (KT.out 3 _ _ rfl)).cons (KT.out 2 _ _ rfl) |>.cons (KT.out 1 _ _ rfl))
                    go_wp2_with fail
                    go_roundw
                    case rel => exact ⟨t, i + 1, rfl, by simp, by omega, CHn, KB, KTn⟩
                    case measure => simp [intOf]; omega
              · have s1' : ¬ (1 : Int) < (s : Int) := by omega
                by_cases lt : t < n
                · have q3 : (t : Int) < (n : Int) := by omega
                  have SLN := Lib.hid (SLC.out f ne (by omega) nen (by omega))
                  have WN := Lib.hid (WSB.out f ne (by omega) nen)
                  have q7 := HG.out lt
                  obtain ⟨Wn, hWn⟩ : ∃ x, wd l f ne = x := ⟨_, rfl⟩
                  rw [hWn] at WN q7
                  clear hWn KBv KTv
                  go_wp2_with fail
                  refine wp_region_vals [some (.int .i64 s), some (.bool false), some (.bool false), some (undef), some (undef), some (undef), some (undef), some (.bool false), some (.bool false), some (.pointer (some ⟨b13, 1, none⟩)), some (.int .i64 (t : Int)), some (.slice (some ⟨g, o, none⟩) n c), some (.int .i64 (n : Int)), some (.bool true), some (.bool true), some (.slice (some ⟨g, o, none⟩) n c), some (.pointer (some ⟨b13, 0, none⟩)), some (.int .i64 (f : Int)), some (.int .i64 (ne : Int)), some (.slice (some ⟨g, o + f * 4, none⟩) (ne - f) (c - f)), some (.int .i64 Wn), some (.int .i64 av), some (.bool false), some (.bool false), some (.bool false)] (fun Lz _ wy => Below w4.heap.size w4 wy ∧ Tab wy [(b13, [.int .i64 (f : Int), .int .i64 (t : Int), .int .i64 W, .int .i64 H]), (b + 4, [.int .i64 d]), (b + 3, [.int .i64 v]), (b + 2, [.slice (some ⟨g2, o2, none⟩) gn gc]), (b + 1, [.int .i64 av]), (b, [.slice (some ⟨g, o, none⟩) n c])])
                    [some 139, some 140, some 141, some 142, some 143, some 144, some 145, some 146, some 147, some 148, some 149, some 150, some 151, some 152, some 153, some 154, some 155, some 156, some 157, some 158, some 159, some 160, some 161, some 162, some 163] (by kernel_rfl) (by kernel_rfl) (by kernel_rfl) (by kernel_rfl) (by kernel_rfl) (by kernel_rfl) ⟨KB.out.drew, KT.out.later ((Below.refl _ _).drew)⟩ (fun i o ho => ?_) (fun Lz vz wz hL hB => ?_)
                  · match i, ho with
                    | 0, ho =>
                      obtain rfl := Option.some.inj ho
                      intro Az Lz vz wy Kz Ez hB k
                      have e14 : Az.eval (.tmp 14) = .int .i64 s := Ez.out 14 (by kernel_rfl)
                      exact wpo_val (v := .int .i64 s) (run_move e14) (k _ _ rfl hB)
                    | 1, ho =>
                      obtain rfl := Option.some.inj ho
                      intro Az Lz vz wy Kz Ez hB k
                      have e139 : Az.eval (.tmp 139) = .int .i64 s := Ez.dep 0 139 (by kernel_rfl) rfl
                      exact wpo_val (v := .bool false) (run_bin e139 rfl (by simp [go_sem]) (by simp [go_sem]; omega)) (k _ _ rfl hB)
                    | 2, ho =>
                      obtain rfl := Option.some.inj ho
                      intro Az Lz vz wy Kz Ez hB k
                      have e140 : Az.eval (.tmp 140) = .bool false := Ez.dep 1 140 (by kernel_rfl) rfl
                      exact wpo_val (v := .bool false) (run_move e140) (k _ _ rfl hB)
                    | 3, ho =>
                      obtain rfl := Option.some.inj ho
                      exact ⟨rfl, fun Lz vz wy h => h⟩
                    | 4, ho =>
                      obtain rfl := Option.some.inj ho
                      exact ⟨rfl, fun Lz vz wy h => h⟩
                    | 5, ho =>
                      obtain rfl := Option.some.inj ho
                      exact ⟨rfl, fun Lz vz wy h => h⟩
                    | 6, ho =>
                      obtain rfl := Option.some.inj ho
                      exact ⟨rfl, fun Lz vz wy h => h⟩
                    | 7, ho =>
                      obtain rfl := Option.some.inj ho
                      intro Az Lz vz wy Kz Ez hB k
                      have e141 : Az.eval (.tmp 141) = .bool false := Ez.dep 2 141 (by kernel_rfl) rfl
                      have e145 : Az.eval (.tmp 145) = undef := Ez.dep 6 145 (by kernel_rfl) rfl
                      exact wpo_val (v := .bool false) (run_pickF e141 rfl) (k _ _ rfl hB)
                    | 8, ho =>
                      obtain rfl := Option.some.inj ho
                      intro Az Lz vz wy Kz Ez hB k
                      have e146 : Az.eval (.tmp 146) = .bool false := Ez.dep 7 146 (by kernel_rfl) rfl
                      exact wpo_val (v := .bool false) (run_move e146) (k _ _ rfl hB)
                    | 9, ho =>
                      obtain rfl := Option.some.inj ho
                      intro Az Lz vz wy Kz Ez hB k
                      have e13 : Az.eval (.tmp 13) = .pointer (some ⟨b13, 0, none⟩) := Ez.out 13 (by kernel_rfl)
                      exact wpo_val (v := .pointer (some ⟨b13, 1, none⟩)) (run_field e13 (by simp [go_sem])) (k _ _ rfl hB)
                    | 10, ho =>
                      obtain rfl := Option.some.inj ho
                      intro Az Lz vz wy Kz Ez hB k
                      have e148 : Az.eval (.tmp 148) = .pointer (some ⟨b13, 1, none⟩) := Ez.dep 9 148 (by kernel_rfl) rfl
                      have c0_1 := hB.2.cell 0 1 rfl rfl
                      exact wpo_val (v := .int .i64 (t : Int)) (run_load e148 (by simp [go_sem, c0_1])) (k _ _ rfl hB)
                    | 11, ho =>
                      obtain rfl := Option.some.inj ho
                      intro Az Lz vz wy Kz Ez hB k
                      have e5 : Az.eval (.tmp 5) = .pointer (some ⟨b, 0, none⟩) := Ez.out 5 (by kernel_rfl)
                      have c5_0 := hB.2.cell 5 0 rfl rfl
                      exact wpo_val (v := .slice (some ⟨g, o, none⟩) n c) (run_load e5 (by simp [go_sem, c5_0])) (k _ _ rfl hB)
                    | 12, ho =>
                      obtain rfl := Option.some.inj ho
                      intro Az Lz vz wy Kz Ez hB k
                      have e150 : Az.eval (.tmp 150) = .slice (some ⟨g, o, none⟩) n c := Ez.dep 11 150 (by kernel_rfl) rfl
                      exact wpo_val (v := .int .i64 (n : Int)) (run_len1 e150) (k _ _ rfl hB)
                    | 13, ho =>
                      obtain rfl := Option.some.inj ho
                      intro Az Lz vz wy Kz Ez hB k
                      have e149 : Az.eval (.tmp 149) = .int .i64 (t : Int) := Ez.dep 10 149 (by kernel_rfl) rfl
                      have e151 : Az.eval (.tmp 151) = .int .i64 (n : Int) := Ez.dep 12 151 (by kernel_rfl) rfl
                      exact wpo_val (v := .bool true) (run_bin e149 e151 (by simp [go_sem]) (by simp [go_sem]; omega)) (k _ _ rfl hB)
                    | 14, ho =>
                      obtain rfl := Option.some.inj ho
                      intro Az Lz vz wy Kz Ez hB k
                      have e152 : Az.eval (.tmp 152) = .bool true := Ez.dep 13 152 (by kernel_rfl) rfl
                      exact wpo_val (v := .bool true) (run_move e152) (k _ _ rfl hB)
                    | 15, ho =>
                      obtain rfl := Option.some.inj ho
                      intro Az Lz vz wy Kz Ez hB k
                      have e5 : Az.eval (.tmp 5) = .pointer (some ⟨b, 0, none⟩) := Ez.out 5 (by kernel_rfl)
                      have c5_0 := hB.2.cell 5 0 rfl rfl
                      exact wpo_val (v := .slice (some ⟨g, o, none⟩) n c) (run_load e5 (by simp [go_sem, c5_0])) (k _ _ rfl hB)
                    | 16, ho =>
                      obtain rfl := Option.some.inj ho
                      intro Az Lz vz wy Kz Ez hB k
                      have e13 : Az.eval (.tmp 13) = .pointer (some ⟨b13, 0, none⟩) := Ez.out 13 (by kernel_rfl)
                      exact wpo_val (v := .pointer (some ⟨b13, 0, none⟩)) (run_field e13 (by simp [go_sem])) (k _ _ rfl hB)
                    | 17, ho =>
                      obtain rfl := Option.some.inj ho
                      intro Az Lz vz wy Kz Ez hB k
                      have e155 : Az.eval (.tmp 155) = .pointer (some ⟨b13, 0, none⟩) := Ez.dep 16 155 (by kernel_rfl) rfl
                      have c0_0 := hB.2.cell 0 0 rfl rfl
                      exact wpo_val (v := .int .i64 (f : Int)) (run_load e155 (by simp [go_sem, c0_0])) (k _ _ rfl hB)
                    | 18, ho =>
                      obtain rfl := Option.some.inj ho
                      intro Az Lz vz wy Kz Ez hB k
                      have e16 : Az.eval (.tmp 16) = .int .i64 (ne : Int) := Ez.out 16 (by kernel_rfl)
                      exact wpo_val (v := .int .i64 (ne : Int)) (run_move e16) (k _ _ rfl hB)
                    | 19, ho =>
                      obtain rfl := Option.some.inj ho
                      intro Az Lz vz wy Kz Ez hB k
                      have e154 : Az.eval (.tmp 154) = .slice (some ⟨g, o, none⟩) n c := Ez.dep 15 154 (by kernel_rfl) rfl
                      have e156 : Az.eval (.tmp 156) = .int .i64 (f : Int) := Ez.dep 17 156 (by kernel_rfl) rfl
                      have e157 : Az.eval (.tmp 157) = .int .i64 (ne : Int) := Ez.dep 18 157 (by kernel_rfl) rfl
                      exact wpo_val (v := .slice (some ⟨g, o + f * 4, none⟩) (ne - f) (c - f)) (run_slice2 e154 e156 e157 (SLN.out wy)) (k _ _ rfl hB)
                    | 20, ho =>
                      obtain rfl := Option.some.inj ho
                      intro Az Lz vz wy Kz Ez hB k
                      have e158 : Az.eval (.tmp 158) = .slice (some ⟨g, o + f * 4, none⟩) (ne - f) (c - f) := Ez.dep 19 158 (by kernel_rfl) rfl
                      refine wpo_call (run_callW (fun _ _ => by kernel_rfl)) (R := fun ez w' => ez = .returned (.int .i64 Wn) ∧ Below wy.heap.size wy w') ?_ ?_
                      · simp only [List.map_toArray, List.map_cons, List.map_nil, eval_const, e158]
                        exact WN.out wy hB.1
                      · rintro ez w' ⟨rfl, hb⟩
                        exact ⟨_, rfl, k _ _ rfl ⟨bel_tr0 hB.1 hb, hB.2.later hb⟩⟩
                    | 21, ho =>
                      obtain rfl := Option.some.inj ho
                      intro Az Lz vz wy Kz Ez hB k
                      have e6 : Az.eval (.tmp 6) = .pointer (some ⟨b + 1, 0, none⟩) := Ez.out 6 (by kernel_rfl)
                      have c4_0 := hB.2.cell 4 0 rfl rfl
                      exact wpo_val (v := .int .i64 av) (run_load e6 (by simp [go_sem, c4_0])) (k _ _ rfl hB)
                    | 22, ho =>
                      obtain rfl := Option.some.inj ho
                      intro Az Lz vz wy Kz Ez hB k
                      have e159 : Az.eval (.tmp 159) = .int .i64 Wn := Ez.dep 20 159 (by kernel_rfl) rfl
                      have e160 : Az.eval (.tmp 160) = .int .i64 av := Ez.dep 21 160 (by kernel_rfl) rfl
                      exact wpo_val (v := .bool false) (run_bin e159 e160 (by simp [go_sem]) (by simp [go_sem, q7])) (k _ _ rfl hB)
                    | 23, ho =>
                      obtain rfl := Option.some.inj ho
                      intro Az Lz vz wy Kz Ez hB k
                      have e153 : Az.eval (.tmp 153) = .bool true := Ez.dep 14 153 (by kernel_rfl) rfl
                      have e161 : Az.eval (.tmp 161) = .bool false := Ez.dep 22 161 (by kernel_rfl) rfl
                      exact wpo_val (v := .bool false) (run_pickT e153 e161) (k _ _ rfl hB)
                    | 24, ho =>
                      obtain rfl := Option.some.inj ho
                      intro Az Lz vz wy Kz Ez hB k
                      have e147 : Az.eval (.tmp 147) = .bool false := Ez.dep 8 147 (by kernel_rfl) rfl
                      have e162 : Az.eval (.tmp 162) = .bool false := Ez.dep 23 162 (by kernel_rfl) rfl
                      exact wpo_val (v := .bool false) (run_pickF e147 e162) (k _ _ rfl hB)
                    | n + 25, ho => simp at ho
                  · obtain ⟨hk, hT⟩ := hB
                    have KB := Lib.hid hk
                    have KT := Lib.hid hT
                    clear hk hT hL
                    simp only [puts2, mix, Act.put, List.setIfInBounds_toArray, List.set_cons_zero, List.set_cons_succ, Nat.zero_add, Nat.reduceAdd, List.getElem?_cons_zero, List.getElem?_cons_succ]

                    have c1 := KT.out.cell 0 1 rfl rfl
                    have KTn : Hid (Tab wz [(b + 4, [.int .i64 d]), (b + 3, [.int .i64 v]), (b + 2, [.slice (some ⟨g2, o2, none⟩) gn gc]), (b + 1, [.int .i64 av]), (b, [.slice (some ⟨g, o, none⟩) n c])]) := Lib.hid (((((Tab.nil _).cons (KT.out 5 _ _ rfl)).cons (KT.out 4 _ _ rfl)).cons (KT.out 3 _ _ rfl)).cons (KT.out 2 _ _ rfl) |>.cons (KT.out 1 _ _ rfl))
                    go_wp2_with fail
                    go_roundw
                    case rel => exact ⟨t, i + 1, rfl, by simp, by omega, CHn, KB, KTn⟩
                    case measure => simp [intOf]; omega
                · have q3n : ¬ (t : Int) < (n : Int) := by omega
                  clear KBv KTv
                  go_wp2_with fail
                  refine wp_region_vals [some (.int .i64 s), some (.bool false), some (.bool false), some (undef), some (undef), some (undef), some (undef), some (.bool false), some (.bool false), some (.pointer (some ⟨b13, 1, none⟩)), some (.int .i64 (t : Int)), some (.slice (some ⟨g, o, none⟩) n c), some (.int .i64 (n : Int)), some (.bool false), some (.bool false), some (undef), some (undef), some (undef), some (undef), some (undef), some (undef), some (undef), some (undef), some (.bool false), some (.bool false)] (fun Lz _ wy => Below w4.heap.size w4 wy ∧ Tab wy [(b13, [.int .i64 (f : Int), .int .i64 (t : Int), .int .i64 W, .int .i64 H]), (b + 4, [.int .i64 d]), (b + 3, [.int .i64 v]), (b + 2, [.slice (some ⟨g2, o2, none⟩) gn gc]), (b + 1, [.int .i64 av]), (b, [.slice (some ⟨g, o, none⟩) n c])])
                    [some 139, some 140, some 141, some 142, some 143, some 144, some 145, some 146, some 147, some 148, some 149, some 150, some 151, some 152, some 153, some 154, some 155, some 156, some 157, some 158, some 159, some 160, some 161, some 162, some 163] (by kernel_rfl) (by kernel_rfl) (by kernel_rfl) (by kernel_rfl) (by kernel_rfl) (by kernel_rfl) ⟨KB.out.drew, KT.out.later ((Below.refl _ _).drew)⟩ (fun i o ho => ?_) (fun Lz vz wz hL hB => ?_)
                  · match i, ho with
                    | 0, ho =>
                      obtain rfl := Option.some.inj ho
                      intro Az Lz vz wy Kz Ez hB k
                      have e14 : Az.eval (.tmp 14) = .int .i64 s := Ez.out 14 (by kernel_rfl)
                      exact wpo_val (v := .int .i64 s) (run_move e14) (k _ _ rfl hB)
                    | 1, ho =>
                      obtain rfl := Option.some.inj ho
                      intro Az Lz vz wy Kz Ez hB k
                      have e139 : Az.eval (.tmp 139) = .int .i64 s := Ez.dep 0 139 (by kernel_rfl) rfl
                      exact wpo_val (v := .bool false) (run_bin e139 rfl (by simp [go_sem]) (by simp [go_sem]; omega)) (k _ _ rfl hB)
                    | 2, ho =>
                      obtain rfl := Option.some.inj ho
                      intro Az Lz vz wy Kz Ez hB k
                      have e140 : Az.eval (.tmp 140) = .bool false := Ez.dep 1 140 (by kernel_rfl) rfl
                      exact wpo_val (v := .bool false) (run_move e140) (k _ _ rfl hB)
                    | 3, ho =>
                      obtain rfl := Option.some.inj ho
                      exact ⟨rfl, fun Lz vz wy h => h⟩
                    | 4, ho =>
                      obtain rfl := Option.some.inj ho
                      exact ⟨rfl, fun Lz vz wy h => h⟩
                    | 5, ho =>
                      obtain rfl := Option.some.inj ho
                      exact ⟨rfl, fun Lz vz wy h => h⟩
                    | 6, ho =>
                      obtain rfl := Option.some.inj ho
                      exact ⟨rfl, fun Lz vz wy h => h⟩
                    | 7, ho =>
                      obtain rfl := Option.some.inj ho
                      intro Az Lz vz wy Kz Ez hB k
                      have e141 : Az.eval (.tmp 141) = .bool false := Ez.dep 2 141 (by kernel_rfl) rfl
                      have e145 : Az.eval (.tmp 145) = undef := Ez.dep 6 145 (by kernel_rfl) rfl
                      exact wpo_val (v := .bool false) (run_pickF e141 rfl) (k _ _ rfl hB)
                    | 8, ho =>
                      obtain rfl := Option.some.inj ho
                      intro Az Lz vz wy Kz Ez hB k
                      have e146 : Az.eval (.tmp 146) = .bool false := Ez.dep 7 146 (by kernel_rfl) rfl
                      exact wpo_val (v := .bool false) (run_move e146) (k _ _ rfl hB)
                    | 9, ho =>
                      obtain rfl := Option.some.inj ho
                      intro Az Lz vz wy Kz Ez hB k
                      have e13 : Az.eval (.tmp 13) = .pointer (some ⟨b13, 0, none⟩) := Ez.out 13 (by kernel_rfl)
                      exact wpo_val (v := .pointer (some ⟨b13, 1, none⟩)) (run_field e13 (by simp [go_sem])) (k _ _ rfl hB)
                    | 10, ho =>
                      obtain rfl := Option.some.inj ho
                      intro Az Lz vz wy Kz Ez hB k
                      have e148 : Az.eval (.tmp 148) = .pointer (some ⟨b13, 1, none⟩) := Ez.dep 9 148 (by kernel_rfl) rfl
                      have c0_1 := hB.2.cell 0 1 rfl rfl
                      exact wpo_val (v := .int .i64 (t : Int)) (run_load e148 (by simp [go_sem, c0_1])) (k _ _ rfl hB)
                    | 11, ho =>
                      obtain rfl := Option.some.inj ho
                      intro Az Lz vz wy Kz Ez hB k
                      have e5 : Az.eval (.tmp 5) = .pointer (some ⟨b, 0, none⟩) := Ez.out 5 (by kernel_rfl)
                      have c5_0 := hB.2.cell 5 0 rfl rfl
                      exact wpo_val (v := .slice (some ⟨g, o, none⟩) n c) (run_load e5 (by simp [go_sem, c5_0])) (k _ _ rfl hB)
                    | 12, ho =>
                      obtain rfl := Option.some.inj ho
                      intro Az Lz vz wy Kz Ez hB k
                      have e150 : Az.eval (.tmp 150) = .slice (some ⟨g, o, none⟩) n c := Ez.dep 11 150 (by kernel_rfl) rfl
                      exact wpo_val (v := .int .i64 (n : Int)) (run_len1 e150) (k _ _ rfl hB)
                    | 13, ho =>
                      obtain rfl := Option.some.inj ho
                      intro Az Lz vz wy Kz Ez hB k
                      have e149 : Az.eval (.tmp 149) = .int .i64 (t : Int) := Ez.dep 10 149 (by kernel_rfl) rfl
                      have e151 : Az.eval (.tmp 151) = .int .i64 (n : Int) := Ez.dep 12 151 (by kernel_rfl) rfl
                      exact wpo_val (v := .bool false) (run_bin e149 e151 (by simp [go_sem]) (by simp [go_sem]; omega)) (k _ _ rfl hB)
                    | 14, ho =>
                      obtain rfl := Option.some.inj ho
                      intro Az Lz vz wy Kz Ez hB k
                      have e152 : Az.eval (.tmp 152) = .bool false := Ez.dep 13 152 (by kernel_rfl) rfl
                      exact wpo_val (v := .bool false) (run_move e152) (k _ _ rfl hB)
                    | 15, ho =>
                      obtain rfl := Option.some.inj ho
                      exact ⟨rfl, fun Lz vz wy h => h⟩
                    | 16, ho =>
                      obtain rfl := Option.some.inj ho
                      exact ⟨rfl, fun Lz vz wy h => h⟩
                    | 17, ho =>
                      obtain rfl := Option.some.inj ho
                      exact ⟨rfl, fun Lz vz wy h => h⟩
                    | 18, ho =>
                      obtain rfl := Option.some.inj ho
                      exact ⟨rfl, fun Lz vz wy h => h⟩
                    | 19, ho =>
                      obtain rfl := Option.some.inj ho
                      exact ⟨rfl, fun Lz vz wy h => h⟩
                    | 20, ho =>
                      obtain rfl := Option.some.inj ho
                      exact ⟨rfl, fun Lz vz wy h => h⟩
                    | 21, ho =>
                      obtain rfl := Option.some.inj ho
                      exact ⟨rfl, fun Lz vz wy h => h⟩
                    | 22, ho =>
                      obtain rfl := Option.some.inj ho
                      exact ⟨rfl, fun Lz vz wy h => h⟩
                    | 23, ho =>
                      obtain rfl := Option.some.inj ho
                      intro Az Lz vz wy Kz Ez hB k
                      have e153 : Az.eval (.tmp 153) = .bool false := Ez.dep 14 153 (by kernel_rfl) rfl
                      have e161 : Az.eval (.tmp 161) = undef := Ez.dep 22 161 (by kernel_rfl) rfl
                      exact wpo_val (v := .bool false) (run_pickF e153 rfl) (k _ _ rfl hB)
                    | 24, ho =>
                      obtain rfl := Option.some.inj ho
                      intro Az Lz vz wy Kz Ez hB k
                      have e147 : Az.eval (.tmp 147) = .bool false := Ez.dep 8 147 (by kernel_rfl) rfl
                      have e162 : Az.eval (.tmp 162) = .bool false := Ez.dep 23 162 (by kernel_rfl) rfl
                      exact wpo_val (v := .bool false) (run_pickF e147 e162) (k _ _ rfl hB)
                    | n + 25, ho => simp at ho
                  · obtain ⟨hk, hT⟩ := hB
                    have KB := Lib.hid hk
                    have KT := Lib.hid hT
                    clear hk hT hL
                    simp only [puts2, mix, Act.put, List.setIfInBounds_toArray, List.set_cons_zero, List.set_cons_succ, Nat.zero_add, Nat.reduceAdd, List.getElem?_cons_zero, List.getElem?_cons_succ]

                    have c1 := KT.out.cell 0 1 rfl rfl
                    have KTn : Hid (Tab wz [(b + 4, [.int .i64 d]), (b + 3, [.int .i64 v]), (b + 2, [.slice (some ⟨g2, o2, none⟩) gn gc]), (b + 1, [.int .i64 av]), (b, [.slice (some ⟨g, o, none⟩) n c])]) := Lib.hid (((((Tab.nil _).cons (KT.out 5 _ _ rfl)).cons (KT.out 4 _ _ rfl)).cons (KT.out 3 _ _ rfl)).cons (KT.out 2 _ _ rfl) |>.cons (KT.out 1 _ _ rfl))
                    go_wp2_with fail
                    go_roundw
                    case rel => exact ⟨t, i + 1, rfl, by simp, by omega, CHn, KB, KTn⟩
                    case measure => simp [intOf]; omega
      · have EN : Hid (at_ = n) := Lib.hid (by rw [HN.out]; exact ch_end CHi.out (by have := GN.out; omega))
        have li' : ¬ (i : Int) < (gn : Int) := by omega
        have e := EN.out
        subst e
        have c9 := KTr.out.cell 0 0 rfl rfl
        have c6 := KTr.out.cell 3 0 rfl rfl
        have c5 := KTr.out.cell 4 0 rfl rfl
        have FIN : Hid (Below w.heap.size w wr) := Lib.hid (bel_tr0 KB4.out KBr.out)
        by_cases p : av < d
        · go_wp2_with fail
          go_returns
          exact ⟨rfl, FIN.out⟩
        · have q : (gn : Int) ≤ 1 := by
            rcases ONE.out with h | h
            · exact absurd h p
            · have := GN.out; omega
          go_wp2_with fail
          go_returns
          exact ⟨rfl, FIN.out⟩
end Go.Proofs.Ytmelbgabiklojaa
