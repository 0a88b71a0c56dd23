/- Margins that meet: the package, the law's helpers. Made by gen/mara.py. -/
import Derived.Test.YtmelbgabiklojaaMarQ
import Derived.Test.YtmelbgabiklojaaSums
import Derived.Test.YtmelbgabiklojaaLinA
import Derived.WalkKit
import Derived.WalkSpells
import Derived.WalkLawsBesides
import Derived.Handy
import Derived.Lib.Hide
import Derived.Deep.QuietTactic
import Derived.BigQuiet
import Derived.LoopTactic
import Derived.RegionTactic
import Derived.BigRegion
import Derived.Outline
namespace Go.Proofs.Ytmelbgabiklojaa
open Go.RowKit Go.Proofs.Reg Go.Proofs.Big Mar
set_option linter.unusedVariables false
set_option linter.unusedSimpArgs false
set_option maxRecDepth 100000
theorem mof_any (x : Int) (w : World) : Calls Try.prog 30 #[.int .i64 x] w fun e w' => e = .returned (.agg #[.int .i64 (max x 0), .int .i64 (min x 0)]) ∧ Below w.heap.size w w' := by
  go_enter Try.func30, Try.ntmps30
  go_wp2_with fail
  go_returns
  exact ⟨rfl, by go_grown⟩
theorem mwith_any (a b c d : Int) (w : World) : Calls Try.prog 31 #[.agg #[.int .i64 a, .int .i64 b], .agg #[.int .i64 c, .int .i64 d]] w fun e w' => e = .returned (.agg #[.int .i64 (max a c), .int .i64 (min b d)]) ∧ Below w.heap.size w w' := by
  go_enter Try.func31, Try.ntmps31
  go_wp2_with fail
  go_returns
  exact ⟨rfl, by go_grown⟩
theorem nodup1 {b : Nat} : ∀ (j : Nat), True := fun _ => trivial
theorem msum_any (u d : Int) (hu : In64 u) (hd : In64 d) (o : Option Int) (ho : addAll 0 [u, d] = o) (w : World) : Calls Try.prog 48 #[.agg #[.int .i64 u, .int .i64 d]] w fun e w' => Told o e ∧ Below w.heap.size w w' := by
  have FA := Lib.hid (fun w => fadd_any _ 2 2 [u, d] o _ (ri_two w u d) (Lib.hid (fun v hv => by
    simp at hv
    rcases hv with rfl | rfl
    · exact hu
    · exact hd)) (Lib.hid ho))
  clear ho hu hd
  go_enter Try.func48, Try.ntmps48
  go_wp2_with fail
  have KB : Hid (Below w.heap.size w ((w.alloc (.cells #[.int .i64 u, .int .i64 d] 56)).alloc (.cells #[.int .i64 u, .int .i64 d] 2))) := Lib.hid (bel_tr0 (bel_newR _ _) (bel_newR _ _))
  have F1 := Lib.hid (FA.out (w.alloc (.cells #[.int .i64 u, .int .i64 d] 56)))
  simp only [World.size_alloc] at F1
  refine F1.out.mono ?_
  rintro e w1 ⟨he, rfl⟩
  cases o with
  | some s =>
    obtain rfl : e = .returned (.int .i64 s) := he
    go_wp2_with fail
    go_returns
    exact ⟨rfl, KB.out⟩
  | none =>
    obtain rfl : e = .panicked (gave 2) := he
    exact ⟨rfl, rfl, KB.out⟩
theorem sumc_ret (b g : Nat) (u d s : Int) (w : World) (hT : Tab w [(b, [.int .i64 u, .int .i64 d])]) (vg : Var w ⟨g, 0, none⟩ (.int .i64 0)) (hF : ∀ w, Calls Try.prog 48 #[.agg #[.int .i64 u, .int .i64 d]] w fun e w' => e = .returned (.int .i64 s) ∧ Below w.heap.size w w') :
    Calls Try.prog 47 #[.pointer (some ⟨b, 0, none⟩), .pointer (some ⟨g, 0, none⟩)] w fun e w' => e = .returned (.tuple #[]) ∧ But [g] w w' ∧ Vars w' [(⟨g, 0, none⟩, .int .i64 s)] := by
  have HF := Lib.hid hF
  have VG := Lib.hid vg
  have c0 := hT.cell 0 0 rfl rfl
  have c1 := hT.cell 0 1 rfl rfl
  clear hF vg hT
  go_enter Try.func47, Try.ntmps47
  go_wp2_with fail
  refine (HF.out _).mono ?_
  rintro e w1 ⟨rfl, hb⟩
  have V1 := Lib.hid (VG.out.later hb)
  have B1 := Lib.hid (But.of (bs := [g]) hb)
  obtain ⟨e0, z0⟩ := V1.out
  clear hb c0 c1 VG
  go_wp2_with fail
  go_end0
  refine ⟨rfl, B1.out.setCell (.inl (by simp)) _, fun x hx => ?_⟩
  obtain rfl : x = _ := List.mem_singleton.1 hx
  exact V1.out.set _
theorem sumc_gave (b g : Nat) (u d : Int) (w : World) (hT : Tab w [(b, [.int .i64 u, .int .i64 d])]) (vg : Var w ⟨g, 0, none⟩ (.int .i64 0)) (hF : ∀ w, Calls Try.prog 48 #[.agg #[.int .i64 u, .int .i64 d]] w fun e w' => e = .panicked (gave 2) ∧ Below w.heap.size w w') :
    Calls Try.prog 47 #[.pointer (some ⟨b, 0, none⟩), .pointer (some ⟨g, 0, none⟩)] w fun e w' => e = .panicked (gave 2) ∧ But [g] w w' ∧ Vars w' [(⟨g, 0, none⟩, .int .i64 0)] := by
  have HF := Lib.hid hF
  have VG := Lib.hid vg
  have c0 := hT.cell 0 0 rfl rfl
  have c1 := hT.cell 0 1 rfl rfl
  clear hF vg hT
  go_enter Try.func47, Try.ntmps47
  go_wp2_with fail
  refine (HF.out _).mono ?_
  rintro e w1 ⟨rfl, hb⟩
  refine ⟨rfl, rfl, But.of (bs := [g]) hb, fun x hx => ?_⟩
  obtain rfl : x = _ := List.mem_singleton.1 hx
  exact VG.out.later hb
def smV (o : Option Int) : Int := match o with
  | some s => s
  | none => 0
def smE (o : Option Int) : Int := match o with
  | some _ => 0
  | none => 2
theorem sumc_try (b g : Nat) (u d : Int) (o : Option Int) (w : World) (hT : Tab w [(b, [.int .i64 u, .int .i64 d])]) (vg : Var w ⟨g, 0, none⟩ (.int .i64 0)) (hF : ∀ w, Calls Try.prog 48 #[.agg #[.int .i64 u, .int .i64 d]] w fun e w' => Told o e ∧ Below w.heap.size w w') :
    Calls Try.prog 12 #[.func (.func 47) #[] #[.pointer (some ⟨b, 0, none⟩), .pointer (some ⟨g, 0, none⟩)]] w fun e w' => e = .returned (.int .i64 (smE o)) ∧ But [g] w w' ∧ Vars w' [(⟨g, 0, none⟩, .int .i64 (smV o))] := by
  have ba : Below w.heap.size w (w.alloc (.cells #[.int .i64 0] 28)) := (Below.refl _ _).alloc (Nat.le_refl _) _
  have l1 := vg.lt
  cases o with
  | some s => exact tryB_ret 47 _ [g] [(⟨g, 0, none⟩, .int .i64 s)] w (fun i hi => by obtain rfl := List.mem_singleton.1 hi; exact l1) (fun x hx => by obtain rfl := List.mem_singleton.1 hx; exact l1) (fun _ => by kernel_rfl) (sumc_ret b g u d s _ (hT.later ba) (vg.later ba) hF)
  | none => exact tryB_gave 47 _ 2 [g] [(⟨g, 0, none⟩, .int .i64 0)] w (fun i hi => by obtain rfl := List.mem_singleton.1 hi; exact l1) (fun x hx => by obtain rfl := List.mem_singleton.1 hx; exact l1) (fun _ => by kernel_rfl) (sumc_gave b g u d _ (hT.later ba) (vg.later ba) hF)
theorem upF_in {l : List Int} (h : ∀ x ∈ l, In64 x) : In64 (upF l) := by
  have := upF_nn l
  have := upF_lt (l := l) (c := 9223372036854775808) (fun x hx => by have := (h x hx).2; omega) (by omega)
  exact ⟨by omega, by omega⟩
theorem dnF_in {l : List Int} (h : ∀ x ∈ l, In64 x) : In64 (dnF l) := by
  have := dnF_np l
  have := dnF_gt (l := l) (c := -9223372036854775809) (fun x hx => by have := (h x hx).1; omega) (by omega)
  exact ⟨by omega, by omega⟩
set_option maxHeartbeats 4000000 in
theorem sum16_any (a : Option Addr) (n c : Nat) (l : List Int) (o : Option Int) (hi : ∀ x ∈ l, In64 x) (ho : addAll 0 [upF l, dnF l] = o) (w : World) (h : Ri w a n c l) :
    Calls Try.prog 28 #[.slice a n c] w fun e w' => e = .returned (.tuple #[.int .i64 (smV o), .int .i64 (smE o)]) ∧ Below w.heap.size w w' := by
  have hmf : ∀ (fn : Fn) (first cap : Array Value) (w : World), (Instr.makeFunc fn first cap).run Try.prog w = .ok (.func fn first cap) w := fun _ _ _ _ => rfl
  have hn := h.hlen
  have hm := h.hmax
  have HK := Lib.hid h
  have HI := Lib.hid hi
  have HO := Lib.hid ho
  have HN := Lib.hid hn
  have MO := Lib.hid mof_any
  have MW := Lib.hid mwith_any
  clear h hi ho hn
  go_enter Try.func28, Try.ntmps28
  go_wp2_with fail
  have kb0 : Hid (Below w.heap.size w (w.alloc (.cells #[.int .i64 0, .int .i64 0] 56))) := Lib.hid (bel_newR _ _)
  have kt0 : Hid (Tab (w.alloc (.cells #[.int .i64 0, .int .i64 0] 56)) [(w.heap.size, [.int .i64 0, .int .i64 0])]) := Lib.hid ((Tab.nil w).new' _ _ rfl)
  go_loopw [5] (fun s5 wr => ∃ (j : Nat) (u d : Int), s5 = .int .i64 j ∧ j ≤ n ∧ Hid (upF (l.take j) = u) ∧ Hid (dnF (l.take j) = d) ∧ Hid (Below w.heap.size w wr) ∧ Hid (Tab wr [(w.heap.size, [.int .i64 u, .int .i64 d])])) (fun s5 _ => n - (intOf s5).toNat)
  case atStart => exact ⟨0, 0, 0, rfl, by omega, Lib.hid rfl, Lib.hid rfl, kb0, kt0⟩
  case round =>
    obtain ⟨j, u, d, rfl, jn, HU, HD, KB, KT⟩ := hrel
    by_cases lt : j < n
    · have lt' : (j : Int) < (n : Int) := by omega
      obtain ⟨p, rfl, hc⟩ := HK.out.addr (by omega)
      obtain ⟨x, hx⟩ : ∃ x, l.getD j 0 = x := ⟨_, rfl⟩
      have y0 := hc j lt
      rw [hx] at y0
      have HX : Hid (l[j]? = some x) := Lib.hid (by rw [← hx, List.getD_eq_getElem?_getD, List.getElem?_eq_getElem (by have := HN.out; omega)]; rfl)
      have CX : Hid (∀ wy, Below w.heap.size w wy → wy.cell? (p.add j) = some (.int .i64 x)) := Lib.hid (fun wy hb => cell_later hb y0)
      have ix : ∀ wy : World, (Instr.indexAt 37 (.slice (some p) n c) (.int .i64 j)).run Try.prog wy = .ok (.pointer (some (p.add j))) wy := fun wy => by
        have k0 : (0 : Int) ≤ (j : Int) := by omega
        simp [go_sem, k0, lt']
        try omega
      clear hc hx y0
      go_wp2_with fail
      refine wp_region_vals [some (.agg #[.int .i64 u, .int .i64 d]), some (.slice (some p) n c), some (.int .i64 (j : Int)), some (.pointer (some (p.add j))), some (.int .i64 x), some (.agg #[.int .i64 (max x 0), .int .i64 (min x 0)]), some (.agg #[.int .i64 (max u (max x 0)), .int .i64 (min d (min x 0))]), none] (fun Lz _ wy => Below w.heap.size w wy ∧ Tab wy [(w.heap.size, if Lz 7 = true then [.int .i64 (max u (max x 0)), .int .i64 (min d (min x 0))] else [.int .i64 u, .int .i64 d])])
        [some 14, some 15, some 16, some 17, some 18, some 19, some 20, none] (by kernel_rfl) (by kernel_rfl) (by kernel_rfl) (by kernel_rfl) (by kernel_rfl) (by kernel_rfl) ⟨KB.out.drew, KT.out.later ((Below.refl _ _).drew)⟩ (fun i o ho => ?_) (fun Lz vz wz hL hB => ?_)
      · match i, ho with
        | 0, ho =>
          obtain rfl := Option.some.inj ho
          intro Az Lz vz wy Kz Ez hB k
          have e4 : Az.eval (.tmp 4) = .pointer (some ⟨w.heap.size, 0, none⟩) := Ez.out 4 (by kernel_rfl)
          have z7 : Lz 7 = false := Ez.late 7 _ rfl (by kernel_rfl)
          have hT := hB.2
          simp only [z7, Bool.false_eq_true, if_false] at hT
          have c0_0 := hT.cell 0 0 rfl rfl
          have c0_1 := hT.cell 0 1 rfl rfl
          exact wpo_val (v := .agg #[.int .i64 u, .int .i64 d]) (run_load e4 (by simp [go_sem, c0_0, c0_1])) (k _ _ rfl hB)
        | 1, ho =>
          obtain rfl := Option.some.inj ho
          intro Az Lz vz wy Kz Ez hB k
          have e0 : Az.eval (.tmp 0) = .slice (some p) n c := Ez.out 0 (by kernel_rfl)
          exact wpo_val (v := .slice (some p) n c) (run_move e0) (k _ _ rfl hB)
        | 2, ho =>
          obtain rfl := Option.some.inj ho
          intro Az Lz vz wy Kz Ez hB k
          have e5 : Az.eval (.tmp 5) = .int .i64 (j : Int) := Ez.out 5 (by kernel_rfl)
          exact wpo_val (v := .int .i64 (j : Int)) (run_move e5) (k _ _ rfl hB)
        | 3, ho =>
          obtain rfl := Option.some.inj ho
          intro Az Lz vz wy Kz Ez hB k
          have e15 : Az.eval (.tmp 15) = .slice (some p) n c := Ez.dep 1 15 (by kernel_rfl) rfl
          have e16 : Az.eval (.tmp 16) = .int .i64 (j : Int) := Ez.dep 2 16 (by kernel_rfl) rfl
          exact wpo_val (v := .pointer (some (p.add j))) (run_index e15 e16 (ix wy)) (k _ _ rfl hB)
        | 4, ho =>
          obtain rfl := Option.some.inj ho
          intro Az Lz vz wy Kz Ez hB k
          have e17 : Az.eval (.tmp 17) = .pointer (some (p.add j)) := Ez.dep 3 17 (by kernel_rfl) rfl
          exact wpo_val (v := .int .i64 x) (run_load e17 (by simp [go_sem, CX.out wy hB.1])) (k _ _ rfl hB)
        | 5, ho =>
          obtain rfl := Option.some.inj ho
          intro Az Lz vz wy Kz Ez hB k
          have e18 : Az.eval (.tmp 18) = .int .i64 x := Ez.dep 4 18 (by kernel_rfl) rfl
          refine wpo_call (run_callW (fun _ _ => by kernel_rfl)) (R := fun ez w' => ez = .returned (.agg #[.int .i64 (max x 0), .int .i64 (min x 0)]) ∧ Below wy.heap.size wy w') ?_ ?_
          · simp only [List.map_toArray, List.map_cons, List.map_nil, eval_const, e18]
            exact MO.out x _
          · rintro ez w' ⟨rfl, hb⟩
            exact ⟨_, rfl, k _ _ rfl ⟨bel_tr0 hB.1 hb, hB.2.later hb⟩⟩
        | 6, ho =>
          obtain rfl := Option.some.inj ho
          intro Az Lz vz wy Kz Ez hB k
          have e14 : Az.eval (.tmp 14) = .agg #[.int .i64 u, .int .i64 d] := Ez.dep 0 14 (by kernel_rfl) rfl
          have e19 : Az.eval (.tmp 19) = .agg #[.int .i64 (max x 0), .int .i64 (min x 0)] := Ez.dep 5 19 (by kernel_rfl) rfl
          refine wpo_call (run_callW (fun _ _ => by kernel_rfl)) (R := fun ez w' => ez = .returned (.agg #[.int .i64 (max u (max x 0)), .int .i64 (min d (min x 0))]) ∧ Below wy.heap.size wy w') ?_ ?_
          · simp only [List.map_toArray, List.map_cons, List.map_nil, eval_const, e14, e19]
            exact MW.out u d (max x 0) (min x 0) _
          · rintro ez w' ⟨rfl, hb⟩
            exact ⟨_, rfl, k _ _ rfl ⟨bel_tr0 hB.1 hb, hB.2.later hb⟩⟩
        | 7, ho =>
          obtain rfl := Option.some.inj ho
          intro Az Lz vz wy Kz Ez hB k
          have e4 : Az.eval (.tmp 4) = .pointer (some ⟨w.heap.size, 0, none⟩) := Ez.out 4 (by kernel_rfl)
          have e20 : Az.eval (.tmp 20) = .agg #[.int .i64 (max u (max x 0)), .int .i64 (min d (min x 0))] := Ez.dep 6 20 (by kernel_rfl) rfl
          have z7 : Lz 7 = false := Ez.not
          have hT := hB.2
          simp only [z7, Bool.false_eq_true, if_false] at hT
          have c0_0 := hT.cell 0 0 rfl rfl
          have f0_0 := hT.froz 0 0 rfl rfl
          have c0_1 := hT.cell 0 1 rfl rfl
          have f0_1 := hT.froz 0 1 rfl rfl
          refine wpo_skip (w' := ((wy.setCell ⟨w.heap.size, 0, none⟩ (.int .i64 (max u (max x 0)))).setCell ⟨w.heap.size, 1, none⟩ (.int .i64 (min d (min x 0))))) (run_store e4 e20 (by simp [go_sem, c0_0, f0_0, c0_1, f0_1])) (k _ _ trivial ⟨?_, ?_⟩)
          · have hk := hB.1
            repeat' (first | exact hk | (with_reducible refine Below.setCell ?_ ?_ _) | (simp; done) | (simp; omega) | omega | go_size)
          · have hU := hB.2
            simp only [z7, Bool.false_eq_true, if_false] at hU
            exact ((hU.set1 0 0 (.int .i64 (max u (max x 0))) rfl (by simp)).set1 0 1 (.int .i64 (min d (min x 0))) rfl (by simp))
        | n + 8, ho => simp at ho
      · have l7 : Lz 7 = true := hL 7 (by decide)
        obtain ⟨hk, hT⟩ := hB
        simp only [l7, if_true] at hT
        have KB := Lib.hid hk
        have KT := Lib.hid hT
        clear hk hT hL
        simp only [puts2, mix, Act.put, List.setIfInBounds_toArray, List.set_cons_zero, List.set_cons_succ, Nat.zero_add, Nat.reduceAdd, List.getElem?_cons_zero, List.getElem?_cons_succ]


        have HU2 : Hid (upF (l.take (j + 1)) = max u (max x 0)) := Lib.hid (by rw [upF_take HX.out, HU.out])
        have HD2 : Hid (dnF (l.take (j + 1)) = min d (min x 0)) := Lib.hid (by rw [dnF_take HX.out, HD.out])
        clear ix
        go_wp2_with fail
        go_roundw
        case rel => exact ⟨j + 1, _, _, by simp, by omega, HU2, HD2, KB, KT⟩
        case measure => simp [intOf]; omega
    · have e : l.take j = l := List.take_of_length_le (by have := HN.out; omega)
      have HU2 : Hid (upF l = u) := Lib.hid (by have := HU.out; rw [e] at this; exact this)
      have HD2 : Hid (dnF l = d) := Lib.hid (by have := HD.out; rw [e] at this; exact this)
      have lt' : ¬ (j : Int) < (n : Int) := by omega
      have MS := Lib.hid (fun w => msum_any u d (HU2.out ▸ upF_in HI.out) (HD2.out ▸ dnF_in HI.out) o (by rw [← HU2.out, ← HD2.out]; exact HO.out) w)
      clear e
      go_wp2_with fail
      have T2 : Hid (Tab (wr.alloc (.cells #[.int .i64 0] 2)) [(w.heap.size, [.int .i64 u, .int .i64 d])]) := Lib.hid (KT.out.later (bel_newR _ _))
      have VG : Hid (Var (wr.alloc (.cells #[.int .i64 0] 2)) ⟨wr.heap.size, 0, none⟩ (.int .i64 0)) := Lib.hid (Var.new wr _ _)
      have KB2 : Hid (Below w.heap.size w (wr.alloc (.cells #[.int .i64 0] 2))) := Lib.hid (bel_tr0 KB.out (bel_newR _ _))
      have lw : w.heap.size ≤ wr.heap.size := KB.out.size
      refine (sumc_try w.heap.size wr.heap.size u d o _ T2.out VG.out MS.out).mono ?_
      rintro e w2 ⟨rfl, hbut, hv⟩
      have K2 : Hid (Below w.heap.size w w2) := Lib.hid (But.below KB2.out hbut (by have := KB2.out.size; exact this) (fun i hi => by simp at hi; omega))
      obtain ⟨e0, _⟩ := hv (⟨wr.heap.size, 0, none⟩, .int .i64 (smV o)) (by simp)
      clear hbut hv T2 VG KB2
      dsimp only at e0
      go_wp2_with fail
      go_returns
      exact ⟨rfl, K2.out⟩
end Go.Proofs.Ytmelbgabiklojaa
