/- Words scaled: the reference. -/
import Derived.Test.YtbolifjkhoiphaaDoorFixC
import Derived.Test.YtbolifjkhoiphaaDoorRegW
import Derived.Test.YtbolifjkhoiphaaDoorRegF
import Derived.Lib.SmallJoins
import Derived.WalkKit
import Derived.WalkSpells
import Derived.WalkLawsBesides
import Derived.Handy
import Derived.Lib.Hide
import Derived.Deep.QuietTactic
import Derived.BigQuiet
import Derived.LoopTactic
import Derived.Deep.RegionHeld3
import Derived.Deep.RegionWith
import Derived.Outline
import Derived.Deep.DeepCutAuto
namespace Go.Proofs.YtbolifjkhoiphaaDoor
open Go.RowKit Go.Proofs.Reg Go.Proofs.Big
set_option linter.unusedVariables false
set_option linter.unusedSimpArgs false
set_option maxRecDepth 100000
/-- a word: how wide, its space, whether a line may end -/
abbrev W3 := Int × Int × Bool
def cells3 (rs : List W3) : List Value := rs.flatMap fun r => [.int .i64 r.1, .int .i64 r.2.1, .bool r.2.2]
theorem cells3_len (rs : List W3) : (cells3 rs).length = rs.length * 3 := by
  induction rs with
  | nil => rfl
  | cons r rs ih =>
    unfold cells3 at *
    rw [List.flatMap_cons, List.length_append, ih, List.length_cons]
    simp
    omega
theorem cells3_append (a b : List W3) : cells3 (a ++ b) = cells3 a ++ cells3 b := by unfold cells3; rw [List.flatMap_append]
theorem cells3_get : ∀ (rs : List W3) (k : Nat) (r : W3), rs[k]? = some r → (cells3 rs)[k * 3]? = some (.int .i64 r.1) ∧ (cells3 rs)[k * 3 + 1]? = some (.int .i64 r.2.1) ∧ (cells3 rs)[k * 3 + 2]? = some (.bool r.2.2)
  | [], k, r, h => by simp at h
  | a :: rs, 0, r, h => by
    simp at h
    subst h
    exact ⟨rfl, rfl, rfl⟩
  | a :: rs, k + 1, r, h => by
    have ih := cells3_get rs k r (by simpa using h)
    have e : cells3 (a :: rs) = .int .i64 a.1 :: .int .i64 a.2.1 :: .bool a.2.2 :: cells3 rs := rfl
    rw [e, show (k + 1) * 3 = k * 3 + 1 + 1 + 1 by omega]
    exact ih
theorem cells3_one (rs : List W3) : ∀ u ∈ cells3 rs, u.oneCell' = true := by
  intro u hu
  unfold cells3 at hu
  obtain ⟨r, _, h⟩ := List.mem_flatMap.1 hu
  simp at h
  rcases h with rfl | rfl | rfl <;> rfl
theorem add_none3 (g o j : Nat) : (⟨g, o, none⟩ : Addr).add j = ⟨g, o + j, none⟩ := by simp [Addr.add]
theorem cell_row3 {w : World} {b : Nat} {c : Array Value} {t : TypeId} (h : w.heap[b]? = some (.cells c t (0, 0))) (k : Nat) : w.cell? ⟨b, k, none⟩ = c[k]? := by simp [World.cell?, h]
/-- a slice reads as words -/
def WS (w : World) (v : Value) (rs : List W3) : Prop := ∃ a n c, v = .slice a n c ∧ n = rs.length ∧ n ≤ c ∧ c ≤ 9223372036854775807 ∧ (0 < n → ∃ g o, a = some ⟨g, o, none⟩ ∧ ∀ k r, rs[k]? = some r → w.cell? ⟨g, o + k * 3, none⟩ = some (.int .i64 r.1) ∧ w.cell? ⟨g, o + k * 3 + 1, none⟩ = some (.int .i64 r.2.1) ∧ w.cell? ⟨g, o + k * 3 + 2, none⟩ = some (.bool r.2.2))
theorem cell_on {w w' : World} {p : Addr} {v : Value} (hb : Below w.heap.size w w') (h : w.cell? p = some v) : w'.cell? p = some v := by
  have lt := World.block_lt_of_cell? w p h
  rw [World.cell?_of_block (hb.block _ lt)]
  exact h
theorem WS.later {w w' : World} {v : Value} {rs : List W3} (h : WS w v rs) (hb : Below w.heap.size w w') : WS w' v rs := by
  obtain ⟨a, n, c, rfl, hn, hc, hm, h5⟩ := h
  refine ⟨a, n, c, rfl, hn, hc, hm, fun q => ?_⟩
  obtain ⟨g, o, e, hk⟩ := h5 q
  refine ⟨g, o, e, fun k r hr => ?_⟩
  obtain ⟨x0, x1, x2⟩ := hk k r hr
  exact ⟨cell_on hb x0, cell_on hb x1, cell_on hb x2⟩
theorem WS.of_owns {w : World} {base : Nat} {e : TypeId} {v : Value} {n : Nat} {rs : List W3} (h : w.ownsRow base e 3 v n (cells3 rs)) : WS w v rs := by
  have h' := h
  have hl := h.1
  rw [cells3_len] at hl
  have hn : n = rs.length := by omega
  obtain ⟨_, ⟨rfl, h0⟩ | ⟨g, cap, cur, rfl, _, _, hc, hm, _⟩⟩ := h'
  · exact ⟨none, 0, 0, rfl, by omega, by omega, by decide, fun h => by omega⟩
  · refine ⟨_, n, cap, rfl, hn, hc, by unfold maxLen at hm; omega, fun _ => ⟨g, 0, rfl, fun k r hk => ?_⟩⟩
    obtain ⟨c0, c1, c2⟩ := cells3_get rs k r hk
    have lk := (List.getElem?_eq_some_iff.1 hk).1
    rw [Nat.zero_add]
    exact ⟨by rw [h.cellAt _ (by omega), c0], by rw [h.cellAt _ (by omega), c1], by rw [h.cellAt _ (by omega), c2]⟩
theorem owns_on {w w' : World} {base : Nat} {e : TypeId} {size : Nat} {v : Value} {n : Nat} {xs : List Value} (h : w.ownsRow base e size v n xs) (hb : Below w.heap.size w w') : w'.ownsRow base e size v n xs := by
  obtain ⟨hl, ⟨rfl, h0⟩ | ⟨g, cap, cur, rfl, h1, h2, h3⟩⟩ := h
  · exact ⟨hl, .inl ⟨rfl, h0⟩⟩
  · exact ⟨hl, .inr ⟨g, cap, cur, rfl, h1, (hb.block g (Array.getElem?_eq_some_iff.1 h2).1).trans h2, h3⟩⟩
/-- a number scaled: the length, the error -/
def scV (p q x : Int) : Int := if lenB (x * p / q) = true then x * p / q else 0
def scE (p q x : Int) : Int := if lenB (x * p / q) = true then 0 else 2
theorem sc_tl (p q x : Int) : Tl (x * p / q) (scV p q x) (scE p q x) := by
  unfold Tl scV scE
  cases h : lenB (x * p / q)
  · simp
  · simp
theorem scE_or (p q x : Int) : scE p q x = 0 ∨ scE p q x = 2 := by unfold scE; split <;> simp
/-- a word scaled, its error -/
def s1 (p q : Int) (r : W3) : W3 := (scV p q r.1, scV p q r.2.1, r.2.2)
def e1 (p q : Int) (r : W3) : Int := if goodB p q = true then (if scE p q r.1 = 0 then scE p q r.2.1 else scE p q r.1) else 1
/-- what scaling makes of words -/
def IsSc (p q : Int) (ws out : List W3) (er : Int) : Prop :=
  (er = 0 ∧ (∀ r ∈ ws, e1 p q r = 0) ∧ out = ws.map (s1 p q)) ∨ (er ≠ 0 ∧ out = [] ∧ ∃ (k : Nat) (r : W3), ws[k]? = some r ∧ e1 p q r = er ∧ ∀ (j : Nat) (r' : W3), j < k → ws[j]? = some r' → e1 p q r' = 0)
theorem IsSc.uniq {p q : Int} {ws o1 o2 : List W3} {x y : Int} (h : IsSc p q ws o1 x) (k : IsSc p q ws o2 y) : o1 = o2 ∧ x = y := by
  rcases h with ⟨rfl, h1, rfl⟩ | ⟨hx, rfl, i, r, h1, h2, h3⟩
  · rcases k with ⟨rfl, _, rfl⟩ | ⟨hy, rfl, i, r, k1, k2, k3⟩
    · exact ⟨rfl, rfl⟩
    · rw [h1 r (List.mem_of_getElem? k1)] at k2
      exact absurd k2.symm hy
  · rcases k with ⟨rfl, k1, rfl⟩ | ⟨hy, rfl, j, s, k1, k2, k3⟩
    · rw [k1 r (List.mem_of_getElem? h1)] at h2
      exact absurd h2.symm hx
    · refine ⟨rfl, ?_⟩
      rcases Nat.lt_trichotomy i j with lt | rfl | lt
      · rw [k3 i r lt h1] at h2; exact absurd h2.symm hx
      · rw [h1] at k1; obtain rfl := Option.some.inj k1; rw [← h2, ← k2]
      · rw [h3 j s lt k1] at k2; exact absurd k2.symm hy
theorem word12_parts : ∃ i0 : TypeInfo, Tryd.prog.info? 80 = some i0 ∧ i0.zero = some (.agg #[.int .i64 0, .int .i64 0, .bool false]) ∧ i0.size = 3 ∧ i0.bytes = 24 := by
  cases h : Tryd.prog.info? 80 with
  | none =>
    have : (Tryd.prog.info? 80).isSome = true := by kernel_rfl
    rw [h] at this
    cases this
  | some i0 =>
    have e : ∀ (α : Type) (f : TypeInfo → α) (v : α), (Tryd.prog.info? 80).map f = some v → f i0 = v := fun α f v hv => by rw [h] at hv; exact Option.some.inj hv
    exact ⟨i0, rfl, e _ (·.zero) _ (by kernel_rfl), e _ (·.size) _ (by kernel_rfl), e _ (·.bytes) _ (by kernel_rfl)⟩
/-- what a loop that appends words keeps -/
structure ScM (e : TypeId) (b0 : Nat) (w wr : World) (pe : Option Addr) (n ce : Nat) (rs : List W3) : Prop where
  own : wr.ownsRow b0 e 3 (.slice pe n ce) n (cells3 rs)
  lt : b0 ≤ wr.heap.size
  len : n = rs.length
  bel : Below b0 w wr
theorem ScM.later {e : TypeId} {b0 : Nat} {w wr wx : World} {pe : Option Addr} {n ce : Nat} {rs : List W3} (h : ScM e b0 w wr pe n ce rs) (hb : Below wr.heap.size wr wx) : ScM e b0 w wx pe n ce rs :=
  ⟨owns_on h.own hb, Nat.le_trans h.lt hb.size, h.len, h.bel.trans (hb.mono h.lt)⟩
theorem ScM.app {e : TypeId} {b0 : Nat} {w W w1 : World} {pe : Option Addr} {n ce : Nat} {rs : List W3} {v1 : Value} {x y : Int} {z : Bool} {o : Obj} (h : ScM e b0 w W pe n ce rs)
    (ho : w1.ownsRow b0 e 3 v1 (n + 1) (cells3 rs ++ [.int .i64 x, .int .i64 y, .bool z])) (g : (W.alloc o).grownBy w1 (Value.slice pe n ce).ownBlock) :
    ∃ a1 c1, v1 = .slice a1 (n + 1) c1 ∧ ScM e b0 w w1 a1 (n + 1) c1 (rs ++ [(x, y, z)]) := by
  have ob : ∀ k, (Value.slice pe n ce).ownBlock = some k → b0 ≤ k := fun k hk => (h.own.lt k hk).1
  obtain ⟨a1, c1, rfl⟩ : ∃ a1 c1, v1 = .slice a1 (n + 1) c1 := by
    rcases Joins.ownsRow_forms ho with ⟨rfl, h⟩ | ⟨g, cap, rfl⟩
    · omega
    · exact ⟨_, cap, rfl⟩
  have b1 : Below b0 w w1 := (h.bel.alloc h.lt o).grown g (by rw [World.size_alloc]; have := h.lt; omega) ob
  refine ⟨a1, c1, rfl, ?_, ?_, by rw [List.length_append, h.len]; rfl, b1⟩
  · rw [cells3_append]
    exact ho
  · have := g.size
    rw [World.size_alloc] at this
    have := h.lt
    omega
theorem part12 (p q x : Int) (g : goodB p q = true) (p0 : -9223372036854775808 ≤ p) (p1 : p ≤ 9223372036854775807) (q1 : q ≤ 9223372036854775807) (x0 : -9223372036854775808 ≤ x) (x1 : x ≤ 9223372036854775807) (w : World) :
    Calls Tryd.prog 42 #[.int .i64 x, .int .i64 p, .int .i64 q] w fun e w' => e = .returned (.tuple #[.int .i64 (scV p q x), .int .i64 (scE p q x)]) ∧ Below w.heap.size w w' := by
  have qp : 1 ≤ q := by
    unfold goodB at g
    simp at g
    exact g.1
  have pr := prod_range x p x0 x1 p0 p1
  obtain ⟨d, r, Q, R, F⟩ := df_ex (x * p) q (by omega) (by omega) (by omega)
  have dq : x * p / q = d := by
    have e := F.er
    have b : 0 ≤ r ∧ r < q := by rcases F.rr with h | h <;> omega
    have : x * p = r + d * q := by omega
    rw [this, Int.add_mul_ediv_right _ _ (by omega), Int.ediv_eq_zero_of_lt b.1 b.2]
    omega
  have T := sc_tl p q x
  rw [dq] at T
  exact part4_any x p q d r Q R _ _ x0 x1 p0 p1 (by omega) q1 F T w
set_option maxHeartbeats 8000000 in
theorem r12scale_any (p q : Int) (p0 : -9223372036854775808 ≤ p) (p1 : p ≤ 9223372036854775807) (q0 : -9223372036854775808 ≤ q) (q1 : q ≤ 9223372036854775807) (v : Value) (ws : List W3) (w : World) (h : WS w v ws) (hi : ∀ r ∈ ws, (-9223372036854775808 ≤ r.1 ∧ r.1 ≤ 9223372036854775807) ∧ (-9223372036854775808 ≤ r.2.1 ∧ r.2.1 ≤ 9223372036854775807)) (hl : ws.length ≤ 1000) :
    Calls Tryd.prog 21 #[v, .int .i64 p, .int .i64 q] w fun e w' => ∃ u out er, e = .returned (.tuple #[u, .int .i64 er]) ∧ WS w' u out ∧ IsSc p q ws out er ∧ Below w.heap.size w w' := by
  obtain ⟨ga, gn, gc, rfl, gl, gb, gm, gk⟩ := h
  have HI := Lib.hid hi
  have HK := Lib.hid gk
  have HL := Lib.hid gl
  have gs : gn ≤ 1000 := by omega
  have GD := Lib.hid (fun w => good2_any p q p0 p1 q0 q1 w)
  have PA := Lib.hid (fun x a b g w => part12 p q x g p0 p1 q1 a b w)
  clear hi gk gl hl
  obtain ⟨i0, hi, hz0, hz1, hz2⟩ := word12_parts
  go_enter Tryd.func21, Tryd.ntmps21
  go_wp2_with fail
  go_loopw [8, 9] (fun s8 s9 wr => ∃ (j : Nat) (pe : Option Addr) (ce : Nat), s8 = .slice pe j ce ∧ s9 = .int .i64 j ∧ j ≤ gn ∧ Hid (ScM 80 w.heap.size w wr pe j ce ((ws.map (s1 p q)).take j)) ∧ Hid (∀ (i : Nat) (r : W3), i < j → ws[i]? = some r → e1 p q r = 0)) (fun _ s9 _ => gn - (intOf s9).toNat)
  case atStart => exact ⟨0, none, 0, rfl, rfl, by omega, Lib.hid ⟨World.ownsRow_nil _ _ _ _, Nat.le_refl _, rfl, Below.refl _ _⟩, Lib.hid (fun i r lt _ => by omega)⟩
  case round =>
    obtain ⟨j, pe, ce, rfl, rfl, jn, HM, HE⟩ := hrel
    by_cases lt : j < gn
    · have lt' : (j : Int) < (gn : Int) := by omega
      obtain ⟨g, o, rfl, hk⟩ := HK.out (by omega)
      obtain ⟨⟨a, b, c⟩, hr⟩ : ∃ r, ws[j]? = some r := ⟨_, List.getElem?_eq_getElem (by have := HL.out; omega)⟩
      obtain ⟨⟨a0, a1⟩, b0, b1⟩ := HI.out _ (List.mem_of_getElem? hr)
      obtain ⟨y0, y1, y2⟩ := hk j _ hr
      dsimp only at a0 a1 b0 b1 y0 y1 y2
      have CL : Hid (∀ wy, Below w.heap.size w wy → wy.cell? ⟨g, o + j * 3, none⟩ = some (.int .i64 a) ∧ wy.cell? ⟨g, o + j * 3 + 1, none⟩ = some (.int .i64 b) ∧ wy.cell? ⟨g, o + j * 3 + 2, none⟩ = some (.bool c)) := Lib.hid (fun wy hb => ⟨cell_on hb y0, cell_on hb y1, cell_on hb y2⟩)
      have HR := Lib.hid hr
      have A := Lib.hid (PA.out a a0 a1)
      have B := Lib.hid (PA.out b b0 b1)
      have ix : ∀ wy : World, (Instr.indexAt 76 (.slice (some ⟨g, o, none⟩) gn gc) (.int .i64 j)).run Tryd.prog wy = .ok (.pointer (some ⟨g, o + j * 3, none⟩)) wy := fun wy => by
        have k0 : (0 : Int) ≤ (j : Int) := by omega
        simp [go_sem, k0, lt', Addr.add]
        try omega
      clear y0 y1 y2 hk hr a0 a1 b0 b1
      go_wp2_with fail
      refine (GD.out _).mono ?_
      rintro _ w1 ⟨rfl, hb⟩
      have M1 := Lib.hid (HM.out.later hb)
      clear hb HM
      obtain ⟨f, hf⟩ : ∃ f, goodB p q = f := ⟨_, rfl⟩
      rw [hf]
      cases f
      · have FIN : Hid (IsSc p q ws [] 1) := Lib.hid (.inr ⟨by decide, rfl, j, _, HR.out, by simp [e1, hf], HE.out⟩)
        clear hf
        go_wp2_with fail
        go_returns
        exact ⟨_, [], 1, rfl, ⟨none, 0, 0, rfl, rfl, by omega, by decide, fun h => by omega⟩, FIN.out, M1.out.bel⟩
      · obtain ⟨va, hva⟩ : ∃ x, scV p q a = x := ⟨_, rfl⟩
        obtain ⟨vb, hvb⟩ : ∃ x, scV p q b = x := ⟨_, rfl⟩
        obtain ⟨ea, hea⟩ : ∃ x, scE p q a = x := ⟨_, rfl⟩
        obtain ⟨eb, heb⟩ : ∃ x, scE p q b = x := ⟨_, rfl⟩
        have oa := scE_or p q a
        have ob := scE_or p q b
        have A1 := Lib.hid (A.out hf)
        have B1 := Lib.hid (B.out hf)
        rw [hva, hea] at A1
        rw [hvb, heb] at B1
        rw [hea] at oa
        rw [heb] at ob
        have EE : Hid (e1 p q (a, b, c) = if ea = 0 then eb else ea) := Lib.hid (by rw [← hea, ← heb]; simp [e1, hf])
        have SS : Hid (s1 p q (a, b, c) = (va, vb, c)) := Lib.hid (by rw [← hva, ← hvb]; rfl)
        clear hva hvb hea heb hf A B
        obtain ⟨x0, x1, x2⟩ := CL.out w1 M1.out.bel
        go_wp2_with fail
        refine (A1.out _).mono ?_
        rintro _ w2 ⟨rfl, hb⟩
        have M2 := Lib.hid (M1.out.later hb)
        clear hb M1 x0 x1 x2
        obtain ⟨x0, x1, x2⟩ := CL.out w2 M2.out.bel
        go_wp2_with fail
        refine (B1.out _).mono ?_
        rintro _ w3 ⟨rfl, hb⟩
        have M3 := Lib.hid (M2.out.later hb)
        clear hb M2 x0 x1 x2
        obtain ⟨x0, x1, x2⟩ := CL.out w3 M3.out.bel
        rcases oa with rfl | rfl
        · rcases ob with rfl | rfl
          · have NN : j + 1 ≤ 1001 := by omega
            go_wp2_with (at_builtin; go_loud (refine wpList_append_own _ rfl _ _ 76 rfl w.heap.size 80 i0 (.agg #[.int .i64 0, .int .i64 0, .bool false]) 3 24 Tryd.underlying76 hi hz0 hz1 hz2 rfl (by decide) _ _ _ rfl (M3.out.own.alloc _) ⟨_, 0, none⟩ 1 1 [.int .i64 va, .int .i64 vb, .bool c] rfl rfl ?c1 ?c2 ?c3 ?c4 ?c5 ?_))
            case c1 =>
              intro k u hk
              have hh : (w3.alloc (.cells #[.int .i64 va, .int .i64 vb, .bool c] 80)).heap[w3.heap.size]? = some (.cells #[.int .i64 va, .int .i64 vb, .bool c] 80 (0, 0)) := heap_alloc_new _ _
              rw [add_none3, Nat.zero_add, cell_row3 hh]
              simpa using hk
            case c2 => simp [Value.oneCell']
            case c3 => unfold maxLen; omega
            case c4 => omega
            case c5 =>
              have := M3.out.lt
              rw [World.size_alloc]
              omega
            intro v1 w4 hown1 hgrow _
            obtain ⟨a1, c1, rfl, HM4⟩ := M3.out.app hown1 hgrow
            have HM5 : Hid (ScM 80 w.heap.size w w4 a1 (j + 1) c1 ((ws.map (s1 p q)).take (j + 1))) := Lib.hid (by
              rw [List.take_add_one, List.getElem?_map, HR.out, Option.map_some, Option.toList_some, SS.out]
              exact HM4)
            have HE5 : Hid (∀ (i : Nat) (r : W3), i < j + 1 → ws[i]? = some r → e1 p q r = 0) := Lib.hid (fun i r li hi => by
              by_cases e : i = j
              · subst e
                rw [HR.out] at hi
                obtain rfl := Option.some.inj hi
                rw [EE.out]; rfl
              · exact HE.out i r (by omega) hi)
            clear hown1 hgrow HM4 M3 HE x0 x1 x2
            go_wp2_with fail
            go_roundw
            case rel => exact ⟨j + 1, a1, c1, rfl, by simp, by omega, HM5, HE5⟩
            case measure => simp [intOf]; omega
          · have FIN : Hid (IsSc p q ws [] 2) := Lib.hid (.inr ⟨by decide, rfl, j, _, HR.out, by rw [EE.out]; rfl, HE.out⟩)
            go_wp2_with fail
            go_returns
            exact ⟨_, [], 2, rfl, ⟨none, 0, 0, rfl, rfl, by omega, by decide, fun h => by omega⟩, FIN.out, M3.out.bel⟩
        · have FIN : Hid (IsSc p q ws [] 2) := Lib.hid (.inr ⟨by decide, rfl, j, _, HR.out, by rw [EE.out]; rfl, HE.out⟩)
          go_wp2_with fail
          go_returns
          exact ⟨_, [], 2, rfl, ⟨none, 0, 0, rfl, rfl, by omega, by decide, fun h => by omega⟩, FIN.out, M3.out.bel⟩
    · have ej : j = gn := by omega
      subst ej
      have FIN : Hid (IsSc p q ws (ws.map (s1 p q)) 0) := Lib.hid (.inl ⟨rfl, fun r m => by
        obtain ⟨k, hk⟩ := List.mem_iff_getElem?.1 m
        have := (List.getElem?_eq_some_iff.1 hk).1
        exact HE.out k r (by have := HL.out; omega) hk, rfl⟩)
      have OW : Hid (WS wr (.slice pe j ce) (ws.map (s1 p q))) := Lib.hid (by
        have := WS.of_owns HM.out.own
        rwa [List.take_of_length_le (by rw [List.length_map]; have := HL.out; omega)] at this)
      go_wp2_with fail
      go_returns
      exact ⟨_, _, 0, rfl, OW.out, FIN.out, HM.out.bel⟩
end Go.Proofs.YtbolifjkhoiphaaDoor
