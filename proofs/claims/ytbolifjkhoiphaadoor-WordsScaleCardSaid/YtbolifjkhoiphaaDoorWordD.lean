/- Words decoded: the program. Made by gen/wordd.py. -/
import Derived.Test.YtbolifjkhoiphaaDoorWordT
import Derived.Test.YtbolifjkhoiphaaDoorGridB
import Derived.Laws.Tables
import Derived.Laws.Rows
import Derived.Laws.CopyOwn
import Derived.WalkKit
import Derived.WalkSpells
import Derived.WalkLawsBesides
import Derived.Handy
import Derived.Lib.Hide
import Derived.Deep.QuietTactic
import Derived.BigQuiet
import Derived.LoopTactic
import Derived.Deep.RegionHeld3
import Derived.Deep.RegionWith
import Derived.Outline
import Derived.Deep.DeepCutAuto
namespace Go.Proofs.YtbolifjkhoiphaaDoor
open Go.RowKit Go.Proofs.Reg Go.Proofs.Big Go.Proofs.Flo
set_option linter.unusedVariables false
set_option linter.unusedSimpArgs false
set_option maxRecDepth 100000
/-- a raw word: its floats by their bits -/
abbrev F3 := Nat × Nat × Bool
def FS (w : World) (v : Value) (rs : List F3) : Prop := ∃ a n c, v = .slice a n c ∧ n = rs.length ∧ n ≤ c ∧ c ≤ 9223372036854775807 ∧ (0 < n → ∃ g o, a = some ⟨g, o, none⟩ ∧ ∀ k r, rs[k]? = some r → w.cell? ⟨g, o + k * 3, none⟩ = some (.float .f64 r.1) ∧ w.cell? ⟨g, o + k * 3 + 1, none⟩ = some (.float .f64 r.2.1) ∧ w.cell? ⟨g, o + k * 3 + 2, none⟩ = some (.bool r.2.2))
theorem FS.later {w w' : World} {v : Value} {rs : List F3} (h : FS w v rs) (hb : Below w.heap.size w w') : FS w' v rs := by
  obtain ⟨a, n, c, rfl, hn, hc, hm, h5⟩ := h
  refine ⟨a, n, c, rfl, hn, hc, hm, fun q => ?_⟩
  obtain ⟨g, o, e, hk⟩ := h5 q
  refine ⟨g, o, e, fun k r hr => ?_⟩
  obtain ⟨x0, x1, x2⟩ := hk k r hr
  exact ⟨cell_on hb x0, cell_on hb x1, cell_on hb x2⟩
/-- a float counted in 64ths, its error -/
def cN (x : Nat) : Int := gridN x 64 0 1073741824
def cE (x : Nat) : Int := gridE x 64 0 1073741824
theorem wcounted_any (x : Nat) (hx : x < 18446744073709551616) (w : World) (hD : Deb w) :
    Calls Tryd.prog 37 #[.float .f64 x] w fun e w' => e = .returned (.tuple #[.int .i64 (cN x), .int .i64 (cE x)]) ∧ Below w.heap.size w w' := by
  have K := Lib.hid (kgrid_any x 64 0 1073741824 hx (by decide) (by decide) w hD)
  obtain ⟨n, hn⟩ : ∃ n, gridN x 64 0 1073741824 = n := ⟨_, rfl⟩
  obtain ⟨e, he⟩ : ∃ e, gridE x 64 0 1073741824 = e := ⟨_, rfl⟩
  unfold cN cE
  rw [hn, he] at K ⊢
  clear hn he hD
  go_enter Tryd.func37, Tryd.ntmps37
  go_wp2_with fail
  refine K.out.mono ?_
  rintro _ w1 ⟨rfl, hb⟩
  have KB := Lib.hid hb
  clear hb
  go_wp2_with fail
  go_returns
  exact ⟨rfl, KB.out⟩
def d1 (r : F3) : W3 := (cN r.1, cN r.2.1, r.2.2)
def dE (r : F3) : Int := if cE r.1 = 0 then cE r.2.1 else cE r.1
/-- what decoding makes of raw words -/
def IsDc (rs : List F3) (out : List W3) (er : Int) : Prop :=
  (256 < rs.length ∧ out = [] ∧ er = 8) ∨ (rs.length ≤ 256 ∧ ((er = 0 ∧ (∀ r ∈ rs, dE r = 0) ∧ out = rs.map d1) ∨ (er ≠ 0 ∧ out = [] ∧ ∃ (k : Nat) (r : F3), rs[k]? = some r ∧ dE r = er ∧ ∀ (j : Nat) (r' : F3), j < k → rs[j]? = some r' → dE r' = 0)))
structure DkM (rs : List F3) (w wr : World) (l : List W3) (j : Nat) : Prop where
  bel : Below w.heap.size w wr
  mkr : wr.heap[w.heap.size]? = some (.cells (cells3 l).toArray 81 (0, 0))
  len : l.length = rs.length
  done : ∀ i, i < j → l[i]? = (rs.map d1)[i]?
  good : ∀ (i : Nat) (r : F3), i < j → rs[i]? = some r → dE r = 0
theorem DkM.later {rs : List F3} {w wr wx : World} {l : List W3} {j : Nat} (h : DkM rs w wr l j) (hb : Below wr.heap.size wr wx) : DkM rs w wx l j :=
  ⟨bel_tr0 h.bel hb, (hb.block _ (Array.getElem?_eq_some_iff.1 h.mkr).1).trans h.mkr, h.len, h.done, h.good⟩
theorem DkM.step {rs : List F3} {w wr : World} {l : List W3} {j : Nat} (h : DkM rs w wr l j) {r : F3} (hr : rs[j]? = some r) (he : dE r = 0) : DkM rs w (sto wr w.heap.size j (d1 r)) (l.set j (d1 r)) (j + 1) := by
  have jl : j < l.length := by rw [h.len]; exact (List.getElem?_eq_some_iff.1 hr).1
  refine ⟨sto_below h.bel (Nat.le_refl _), sto_row h.mkr jl _, by rw [List.length_set, h.len], fun i hi => ?_, fun i r' hi hr' => ?_⟩
  · by_cases e : i = j
    · subst e
      rw [List.getElem?_set_self jl, List.getElem?_map, hr]; rfl
    · rw [List.getElem?_set_ne (Ne.symm e)]
      exact h.done i (by omega)
  · by_cases e : i = j
    · subst e
      rw [hr] at hr'
      obtain rfl := Option.some.inj hr'
      exact he
    · exact h.good i r' (by omega) hr'
set_option maxHeartbeats 8000000 in
theorem wdecode_any (v : Value) (rs : List F3) (w : World) (h : FS w v rs) (hi : ∀ r ∈ rs, r.1 < 18446744073709551616 ∧ r.2.1 < 18446744073709551616) (hD : Deb w) :
    Calls Tryd.prog 16 #[v] w fun e w' => ∃ u out er, e = .returned (.tuple #[u, .int .i64 er]) ∧ WS w' u out ∧ IsDc rs out er ∧ Below w.heap.size w w' := by
  obtain ⟨ga, gn, gc, rfl, gl, gb, gm, gk⟩ := h
  have HI := Lib.hid hi
  have HK := Lib.hid gk
  have HL := Lib.hid gl
  have DB := Lib.hid hD
  clear hi gk gl hD
  by_cases big : 256 < gn
  · have big' : (256 : Int) < (gn : Int) := by omega
    have FIN : Hid (IsDc rs [] 8) := Lib.hid (.inl ⟨by have := HL.out; omega, rfl, rfl⟩)
    go_enter Tryd.func16, Tryd.ntmps16
    go_wp2_with fail
    go_returns
    exact ⟨_, [], 8, rfl, ⟨none, 0, 0, rfl, rfl, by omega, by decide, fun h => by omega⟩, FIN.out, Below.refl _ _⟩
  · have big' : ¬ (256 : Int) < (gn : Int) := by omega
    have LS : Hid (rs.length ≤ 256) := Lib.hid (by have := HL.out; omega)
    have hmk : ∀ w : World, (Instr.makeSlice 73 (.int .i64 gn) (.int .i64 gn)).run Tryd.prog w = .ok (.slice (some ⟨w.heap.size, 0, none⟩) gn gn) (w.alloc (.cells (cells3 (List.replicate gn ((0, 0, false) : W3))).toArray 81)) := make_words gn (by omega)
    go_enter Tryd.func16, Tryd.ntmps16
    go_wp2_with fail
    clear hmk
    obtain ⟨wl, hwl⟩ : ∃ wl, w.alloc (.cells (cells3 (List.replicate gn ((0, 0, false) : W3))).toArray 81) = wl := ⟨_, rfl⟩
    rw [hwl]
    have M0 : Hid (DkM rs w wl (List.replicate gn (0, 0, false)) 0) := Lib.hid (by
      rw [← hwl]
      exact ⟨(Below.refl _ _).alloc (Nat.le_refl _) _, heap_alloc_new _ _, by rw [List.length_replicate]; exact HL.out, fun i h => by omega, fun i r h => by omega⟩)
    clear hwl
    go_loopw [18] (fun s18 wr => ∃ (j : Nat) (l : List W3), s18 = .int .i64 j ∧ j ≤ gn ∧ Hid (DkM rs w wr l j)) (fun s18 _ => gn - (intOf s18).toNat)
    case atStart => exact ⟨0, _, rfl, by omega, M0⟩
    case round =>
      clear M0
      obtain ⟨j, l, rfl, jn, HM⟩ := hrel
      by_cases lt : j < gn
      · have lt' : (j : Int) < (gn : Int) := by omega
        obtain ⟨g, o, rfl, hk⟩ := HK.out (by omega)
        obtain ⟨⟨a, b, c⟩, hr⟩ : ∃ r, rs[j]? = some r := ⟨_, List.getElem?_eq_getElem (by have := HL.out; omega)⟩
        obtain ⟨a1, b1⟩ := HI.out _ (List.mem_of_getElem? hr)
        obtain ⟨y0, y1, y2⟩ := hk j _ hr
        dsimp only at a1 b1 y0 y1 y2
        have x0 := cell_on HM.out.bel y0
        have x1 := cell_on HM.out.bel y1
        have x2 := cell_on HM.out.bel y2
        have HR := Lib.hid hr
        obtain ⟨va, hva⟩ : ∃ x, cN a = x := ⟨_, rfl⟩
        obtain ⟨vb, hvb⟩ : ∃ x, cN b = x := ⟨_, rfl⟩
        obtain ⟨ea, hea⟩ : ∃ x, cE a = x := ⟨_, rfl⟩
        obtain ⟨eb, heb⟩ : ∃ x, cE b = x := ⟨_, rfl⟩
        have A := Lib.hid (fun w h => wcounted_any a a1 w h)
        have B := Lib.hid (fun w h => wcounted_any b b1 w h)
        rw [hva, hea] at A
        rw [hvb, heb] at B
        have EE : Hid (dE (a, b, c) = if ea = 0 then eb else ea) := Lib.hid (by rw [← hea, ← heb]; rfl)
        have SS : Hid (d1 (a, b, c) = (va, vb, c)) := Lib.hid (by rw [← hva, ← hvb]; rfl)
        have ix : ∀ wy : World, (Instr.indexAt 66 (.slice (some ⟨g, o, none⟩) gn gc) (.int .i64 j)).run Tryd.prog wy = .ok (.pointer (some ⟨g, o + j * 3, none⟩)) wy := fun wy => by
          have k0 : (0 : Int) ≤ (j : Int) := by omega
          simp [go_sem, k0, lt', Addr.add]
          try omega
        have iy : ∀ wy : World, (Instr.indexAt 73 (.slice (some ⟨w.heap.size, 0, none⟩) gn gn) (.int .i64 j)).run Tryd.prog wy = .ok (.pointer (some ⟨w.heap.size, j * 3, none⟩)) wy := fun wy => by
          have k0 : (0 : Int) ≤ (j : Int) := by omega
          simp [go_sem, k0, lt', Addr.add]
          try exact fun h => h.symm
        clear y0 y1 y2 hk hr a1 b1 hva hvb hea heb
        have E2 : (Tryd.prog.info? 72).map (·.size) = some (#[.float .f64 a, .float .f64 b, .bool c] : Array Value).size := by show _ = some 3; kernel_rfl
        have E1 : (#[.float .f64 0, .float .f64 0, .bool false] : Array Value).size = (#[.float .f64 a, .float .f64 b, .bool c] : Array Value).size := rfl
        have ON : (#[.float .f64 a, .float .f64 b, .bool c] : Array Value).all (·.oneCell') = true := by simp [Value.oneCell']
        have rw0 : ((wr.alloc (.cells #[.float .f64 0, .float .f64 0, .bool false] 72)).setRow wr.heap.size #[.float .f64 a, .float .f64 b, .bool c]).heap[wr.heap.size]? = some (.cells #[.float .f64 a, .float .f64 b, .bool c] 72 (0, 0)) := setRow_heap _ _ _ _ _ _ (heap_alloc_new _ _)
        have z0 : ((wr.alloc (.cells #[.float .f64 0, .float .f64 0, .bool false] 72)).setRow wr.heap.size #[.float .f64 a, .float .f64 b, .bool c]).cell? ⟨wr.heap.size, 0, none⟩ = some (.float .f64 a) := cell_row3 rw0 0
        have z1 : ((wr.alloc (.cells #[.float .f64 0, .float .f64 0, .bool false] 72)).setRow wr.heap.size #[.float .f64 a, .float .f64 b, .bool c]).cell? ⟨wr.heap.size, 1, none⟩ = some (.float .f64 b) := cell_row3 rw0 1
        have z2 : ((wr.alloc (.cells #[.float .f64 0, .float .f64 0, .bool false] 72)).setRow wr.heap.size #[.float .f64 a, .float .f64 b, .bool c]).cell? ⟨wr.heap.size, 2, none⟩ = some (.bool c) := cell_row3 rw0 2
        clear rw0
        go_wp2_with (refine wpList_store_row rfl 72 (.tmp 6) (.tmp 22) rfl wr.heap.size #[.float .f64 a, .float .f64 b, .bool c] rfl rfl 72 #[.float .f64 0, .float .f64 0, .bool false] (heap_alloc_new _ _) E2 E1 ON ?_)
        clear E1 E2 ON z0 z1 z2
        obtain ⟨w1, hw1⟩ : ∃ x, (wr.alloc (.cells #[.float .f64 0, .float .f64 0, .bool false] 72)).setRow wr.heap.size #[.float .f64 a, .float .f64 b, .bool c] = x := ⟨_, rfl⟩
        try rw [hw1]
        have B1 : Below wr.heap.size wr w1 := by rw [← hw1]; exact below_setRow (bel_newR _ _) (Nat.le_refl _) _
        have BX : Hid (w1.heap[wr.heap.size]? = some (.cells #[.float .f64 a, .float .f64 b, .bool c] 72 (0, 0))) := Lib.hid (by rw [← hw1]; exact setRow_heap _ _ _ _ _ _ (heap_alloc_new _ _))
        have M1 : Hid (DkM rs w w1 l j) := Lib.hid (HM.out.later B1)
        have b7 : wr.heap.size < w1.heap.size := (Array.getElem?_eq_some_iff.1 BX.out).1
        obtain ⟨bx, hbx⟩ : ∃ bx, wr.heap.size = bx := ⟨_, rfl⟩
        rw [hbx] at BX b7 ⊢
        clear hw1 B1 HM x0 x1 x2 ix hbx
        refine (A.out _ ?deb).mono ?_
        case deb => exact DB.out.later M1.out.bel
        rintro _ w2 ⟨rfl, hb⟩
        have M2 := Lib.hid (M1.out.later hb)
        have BX := Lib.hid ((hb.block _ (Array.getElem?_eq_some_iff.1 BX.out).1).trans BX.out)
        have b7 : bx < w2.heap.size := Nat.lt_of_lt_of_le b7 hb.size
        clear hb M1
        have z0 := cell_row3 BX.out 0
        have z1 := cell_row3 BX.out 1
        have z2 := cell_row3 BX.out 2
        simp at z0 z1 z2
        by_cases ez : ea = 0
        · subst ez
          go_wp2_with fail
          refine (B.out _ ?deb).mono ?_
          case deb => exact DB.out.later M2.out.bel
          rintro _ w3 ⟨rfl, hb⟩
          have M3 := Lib.hid (M2.out.later hb)
          have BX3 := Lib.hid ((hb.block _ (Array.getElem?_eq_some_iff.1 BX.out).1).trans BX.out)
          clear hb M2 z0 z1 z2
          have z0 := cell_row3 BX3.out 0
          have z1 := cell_row3 BX3.out 1
          have z2 := cell_row3 BX3.out 2
          simp at z0 z1 z2
          by_cases fz : eb = 0
          · subst fz
            have jl : j < l.length := by rw [M3.out.len, ← HL.out]; exact lt
            obtain ⟨o0, o1, o2, k0, k1, k2, kf⟩ := mk_cells M3.out.mkr jl
            have f0 := kf (j * 3)
            have f1 := kf (j * 3 + 1)
            have f2 := kf (j * 3 + 2)
            clear kf
            have M5 : Hid (DkM rs w (sto w3 w.heap.size j (va, vb, c)) (l.set j (va, vb, c)) (j + 1)) := Lib.hid (by
              have := M3.out.step HR.out (by rw [EE.out]; rfl)
              rwa [SS.out] at this)
            unfold sto at M5
            dsimp only at M5
            go_wp2_with fail
            go_roundw
            case rel => exact ⟨j + 1, _, by simp, by omega, M5⟩
            case measure => simp [intOf]; omega
          · have fz' : (eb == 0) = false := by simpa using fz
            have FIN : Hid (IsDc rs [] eb) := Lib.hid (.inr ⟨LS.out, .inr ⟨fz, rfl, j, _, HR.out, by rw [EE.out]; rfl, M3.out.good⟩⟩)
            go_wp2_with fail
            go_returns
            exact ⟨_, [], eb, rfl, ⟨none, 0, 0, rfl, rfl, by omega, by decide, fun h => by omega⟩, FIN.out, M3.out.bel⟩
        · have ez' : (ea == 0) = false := by simpa using ez
          have FIN : Hid (IsDc rs [] ea) := Lib.hid (.inr ⟨LS.out, .inr ⟨ez, rfl, j, _, HR.out, by rw [EE.out, if_neg ez], M2.out.good⟩⟩)
          go_wp2_with fail
          go_returns
          exact ⟨_, [], ea, rfl, ⟨none, 0, 0, rfl, rfl, by omega, by decide, fun h => by omega⟩, FIN.out, M2.out.bel⟩
      · have ej : j = gn := by omega
        subst ej
        have FIN : Hid (IsDc rs l 0 ∧ WS wr (.slice (some ⟨w.heap.size, 0, none⟩) j j) l) := Lib.hid (by
          have ll : l = rs.map d1 := List.ext_getElem? fun i => by
            by_cases hi : i < j
            · exact HM.out.done i hi
            · rw [List.getElem?_eq_none (by rw [HM.out.len]; have := HL.out; omega), List.getElem?_eq_none (by rw [List.length_map]; have := HL.out; omega)]
          refine ⟨.inr ⟨LS.out, .inl ⟨rfl, fun r m => ?_, ll⟩⟩, ⟨_, _, _, rfl, by rw [HM.out.len]; exact HL.out, Nat.le_refl _, by omega, fun _ => ⟨_, 0, rfl, fun k r hk => ?_⟩⟩⟩
          · obtain ⟨k, hk⟩ := List.mem_iff_getElem?.1 m
            have := (List.getElem?_eq_some_iff.1 hk).1
            exact HM.out.good k r (by have := HL.out; omega) hk
          · obtain ⟨g0, g1, g2⟩ := cells3_get l k r hk
            rw [Nat.zero_add]
            rw [cell_row3 HM.out.mkr, cell_row3 HM.out.mkr, cell_row3 HM.out.mkr, List.getElem?_toArray, List.getElem?_toArray, List.getElem?_toArray]
            exact ⟨g0, g1, g2⟩)
        go_wp2_with fail
        go_returns
        exact ⟨_, l, 0, rfl, FIN.out.2, FIN.out.1, HM.out.bel⟩
end Go.Proofs.YtbolifjkhoiphaaDoor
