/- Law 15: speaks, WidthSolves. Made by gen/widf.py. -/
import Derived.Test.YtmelbgabiklojaaWidE
import Derived.Test.YtmelbgabiklojaaRegF
import Derived.RegionTactic
import Derived.BigRegion
import Derived.Deep.DeepCutAuto
import Derived.Deep.CutBlock
import Derived.WalkKit
import Derived.WalkSpells
import Derived.WalkLawsBesides
import Derived.Handy
import Derived.Lib.Hide
import Derived.Deep.QuietTactic
import Derived.BigQuiet
import Derived.LoopTactic
import Derived.Outline
namespace Go.Proofs.Ytmelbgabiklojaa
open Go.RowKit Go.Proofs.Reg Go.Proofs.Big Wid
set_option linter.unusedVariables false
set_option linter.unusedSimpArgs false
set_option maxRecDepth 100000
theorem spc_in (g : Nat) (w : World) (hG : Tab w [(g, [.int .i64 0, .int .i64 0, .int .i64 0])]) :
    Calls Try.prog 42 #[.pointer (some ⟨g, 0, none⟩)] w fun e w' => e = .returned (.tuple #[]) ∧ But [g] w w' ∧ Vars w' (out3 g (4, 0, 6)) := by
  have HG := Lib.hid hG
  have TO := Lib.hid (told15_any 10 4 0 0 0 0 0 false false false false)
  have HF := Lib.hid (wsolve_any 10 4 0 0 0 0 0 false false false false)
  rw [show solveE 10 4 0 0 0 0 0 false false false false = some (4, 0, 6) by decide] at HF
  clear hG
  go_enter Try.func42, Try.ntmps42
  go_wp2_with fail
  refine (TO.out _).mono ?_
  rintro e w1 ⟨rfl, hb⟩
  have G1 := Lib.hid (HG.out.later hb)
  have B1 := Lib.hid (But.of (bs := [g]) hb)
  clear hb HG
  go_wp2_with fail
  refine (HF.out _).mono ?_
  rintro e w2 ⟨he, hb⟩
  have G2 := Lib.hid (G1.out.later hb)
  have B2 := Lib.hid (B1.out.trans (But.of (bs := [g]) hb))
  clear hb G1 B1
  obtain rfl : e = .returned (.agg #[.int .i64 4, .int .i64 0, .int .i64 6]) := he
  have d0 := G2.out.cell 0 0 rfl rfl
  have d1 := G2.out.cell 0 1 rfl rfl
  have d2 := G2.out.cell 0 2 rfl rfl
  have f0 := G2.out.froz 0 0 rfl rfl
  have f1 := G2.out.froz 0 1 rfl rfl
  have f2 := G2.out.froz 0 2 rfl rfl
  go_wp2_with fail
  go_end0
  have T3 := ((G2.out.set1 0 0 (.int .i64 4) rfl (by simp)).set1 0 1 (.int .i64 0) rfl (by simp)).set1 0 2 (.int .i64 6) rfl (by simp)
  exact ⟨rfl, ((B2.out.setCell (.inl (by simp)) _).setCell (.inl (by simp)) _).setCell (.inl (by simp)) _, out3_of T3⟩
set_option maxHeartbeats 8000000 in
theorem speaks15_any (w : World) : Calls Try.prog 21 #[] w fun e w' => e = .returned (.bool true) ∧ Below w.heap.size w w' := by
  have hmf : ∀ (fn : Fn) (first cap : Array Value) (w : World), (Instr.makeFunc fn first cap).run Try.prog w = .ok (.func fn first cap) w := fun _ _ _ _ => rfl
  have S1 := Lib.hid (solved15_any 100 40 0 0 0 0 0 false true true false)
  rw [show solveE 100 40 0 0 0 0 0 false true true false = some (40, 30, 30) by decide] at S1
  simp only [slV, slE] at S1
  have S2 := Lib.hid (solved15_any 100 120 0 0 0 0 0 false false false false)
  rw [show solveE 100 120 0 0 0 0 0 false false false false = some (120, 0, -20) by decide] at S2
  simp only [slV, slE] at S2
  have S3 := Lib.hid (solved15_any 100 0 7 0 3 0 50 true false false true)
  rw [show solveE 100 0 7 0 3 0 50 true false false true = some (50, 7, 40) by decide] at S3
  simp only [slV, slE] at S3
  have q1 := arr3_eql 40 30 30
  have q2 := arr3_eql 120 0 (-20)
  have q3 := arr3_eql 50 7 40
  go_enter Try.func21, Try.ntmps21
  go_wp2_with fail
  obtain ⟨w0, hw0⟩ : ∃ x, w.alloc (.cells #[.int .i64 0, .int .i64 0, .int .i64 0] 73) = x := ⟨_, rfl⟩
  rw [hw0]
  have KB : Hid (Below w.heap.size w w0) := Lib.hid (by rw [← hw0]; exact bel_newR _ _)
  have KT : Hid (Tab w0 [(w.heap.size, [.int .i64 0, .int .i64 0, .int .i64 0])]) := Lib.hid (by rw [← hw0]; exact (Tab.nil w).new' _ _ rfl)
  clear hw0
  have ba : Below w0.heap.size w0 (w0.alloc (.cells #[.int .i64 0] 28)) := (Below.refl _ _).alloc (Nat.le_refl _) _
  have lg := KT.out.lt 0 rfl
  refine (tryB_ret 42 _ [w.heap.size] (out3 w.heap.size (4, 0, 6)) w0 (fun i hi => by obtain rfl := List.mem_singleton.1 hi; exact lg) (out3_lt lg _) (fun _ => by kernel_rfl) (spc_in w.heap.size _ (KT.out.later ba))).mono ?_
  rintro e w1 ⟨rfl, hbut, hv⟩
  have KB : Hid (Below w.heap.size w w1) := Lib.hid (But.below KB.out hbut KB.out.size (fun i hi => by simp at hi; omega))
  obtain ⟨e0, _⟩ := hv (⟨w.heap.size, 0, none⟩, .int .i64 4) (by simp [out3])
  obtain ⟨e1, _⟩ := hv (⟨w.heap.size, 1, none⟩, .int .i64 0) (by simp [out3])
  obtain ⟨e2, _⟩ := hv (⟨w.heap.size, 2, none⟩, .int .i64 6) (by simp [out3])
  clear hbut hv KT ba lg
  dsimp only at e0 e1 e2
  go_wp2_with fail
  refine (S1.out _).mono ?_
  rintro e w2 ⟨rfl, hb⟩
  have KB := Lib.hid (bel_tr0 KB.out hb)
  clear hb e0 e1 e2
  go_wp2_with fail
  have KT : Hid (Tab (w2.alloc (.cells #[.int .i64 40, .int .i64 30, .int .i64 30] 43)) [(w2.heap.size, [.int .i64 40, .int .i64 30, .int .i64 30])]) := Lib.hid ((Tab.nil w2).new' _ _ rfl)
  have KB := Lib.hid (bel_tr0 KB.out (bel_newR w2 (.cells #[.int .i64 40, .int .i64 30, .int .i64 30] 43)))
  refine (S2.out _).mono ?_
  rintro e w3 ⟨rfl, hb⟩
  have KB := Lib.hid (bel_tr0 KB.out hb)
  have KT := Lib.hid (KT.out.later hb)
  clear hb
  go_wp2_with fail
  have KT : Hid (Tab (w3.alloc (.cells #[.int .i64 120, .int .i64 0, .int .i64 (-20)] 43)) [(w3.heap.size, [.int .i64 120, .int .i64 0, .int .i64 (-20)]), (w2.heap.size, [.int .i64 40, .int .i64 30, .int .i64 30])]) := Lib.hid (KT.out.new' _ _ rfl)
  have KB := Lib.hid (bel_tr0 KB.out (bel_newR w3 (.cells #[.int .i64 120, .int .i64 0, .int .i64 (-20)] 43)))
  refine (S3.out _).mono ?_
  rintro e w4 ⟨rfl, hb⟩
  have KB := Lib.hid (bel_tr0 KB.out hb)
  have KT := Lib.hid (KT.out.later hb)
  clear hb
  obtain ⟨b2, hb2⟩ : ∃ b, w2.heap.size = b := ⟨_, rfl⟩
  obtain ⟨b3, hb3⟩ : ∃ b, w3.heap.size = b := ⟨_, rfl⟩
  obtain ⟨b4, hb4⟩ : ∃ b, w4.heap.size = b := ⟨_, rfl⟩
  obtain ⟨w5, hw5⟩ : ∃ x, w4.alloc (.cells #[.int .i64 50, .int .i64 7, .int .i64 40] 43) = x := ⟨_, rfl⟩
  have KT : Hid (Tab w5 [(b4, [.int .i64 50, .int .i64 7, .int .i64 40]), (b3, [.int .i64 120, .int .i64 0, .int .i64 (-20)]), (b2, [.int .i64 40, .int .i64 30, .int .i64 30])]) := Lib.hid (by rw [← hw5, ← hb2, ← hb3]; exact KT.out.new' _ _ hb4.symm)
  have KB : Hid (Below w.heap.size w w5) := Lib.hid (by rw [← hw5]; exact bel_tr0 KB.out (bel_newR _ _))
  rw [hb2, hb3]
  go_upto_region 7 with fail
  clear hw5 hb2 hb3 hb4
  have a0 := KT.out.cell 2 0 rfl rfl
  have a1 := KT.out.cell 2 1 rfl rfl
  have a2 := KT.out.cell 2 2 rfl rfl
  have b0 := KT.out.cell 1 0 rfl rfl
  have b1 := KT.out.cell 1 1 rfl rfl
  have b2' := KT.out.cell 1 2 rfl rfl
  have c0 := KT.out.cell 0 0 rfl rfl
  have c1 := KT.out.cell 0 1 rfl rfl
  have c2 := KT.out.cell 0 2 rfl rfl
  go_wp2_with fail
  go_returns
  exact ⟨rfl, KB.out⟩
set_option maxHeartbeats 16000000 in
theorem law_widthsolves (A W L R E Lo Hi : Int) (a al ar bd : Bool) (hA : In64 A) (hW : In64 W) (hL : In64 L) (hR : In64 R) (hE : In64 E) (hLo : In64 Lo) (hHi : In64 Hi) (w : World) : Calls Try.prog 5 #[.agg #[.int .i64 A, .int .i64 W, .bool a, .int .i64 L, .int .i64 R, .bool al, .bool ar, .int .i64 E, .int .i64 Lo, .int .i64 Hi, .bool bd]] w fun e w' => e = .returned (.bool true) ∧ Below w.heap.size w w' := by
  have SP := Lib.hid speaks15_any
  have CU := Lib.hid (cut15_any A W L R E Lo Hi a al ar bd hA hW hL hR hE hLo hHi)
  obtain ⟨CA, qA⟩ : ∃ x, A.tmod 1099511627776 = x := ⟨_, rfl⟩
  have cA : Cu CA := by rw [← qA]; exact cu_of A
  rw [qA] at CU
  obtain ⟨CW, qW⟩ : ∃ x, W.tmod 1099511627776 = x := ⟨_, rfl⟩
  have cW : Cu CW := by rw [← qW]; exact cu_of W
  rw [qW] at CU
  obtain ⟨CL, qL⟩ : ∃ x, L.tmod 1099511627776 = x := ⟨_, rfl⟩
  have cL : Cu CL := by rw [← qL]; exact cu_of L
  rw [qL] at CU
  obtain ⟨CR, qR⟩ : ∃ x, R.tmod 1099511627776 = x := ⟨_, rfl⟩
  have cR : Cu CR := by rw [← qR]; exact cu_of R
  rw [qR] at CU
  obtain ⟨CE, qE⟩ : ∃ x, E.tmod 1099511627776 = x := ⟨_, rfl⟩
  have cE : Cu CE := by rw [← qE]; exact cu_of E
  rw [qE] at CU
  obtain ⟨CLo, qLo⟩ : ∃ x, Lo.tmod 1099511627776 = x := ⟨_, rfl⟩
  have cLo : Cu CLo := by rw [← qLo]; exact cu_of Lo
  rw [qLo] at CU
  obtain ⟨CHi, qHi⟩ : ∃ x, Hi.tmod 1099511627776 = x := ⟨_, rfl⟩
  have cHi : Cu CHi := by rw [← qHi]; exact cu_of Hi
  rw [qHi] at CU
  have SO := Lib.hid (solved15_any CA CW CL CR CE CLo CHi a al ar bd)
  rw [solve_cut cA cW cL cR cE cLo cHi] at SO
  simp only [slV, slE] at SO
  have RS := Lib.hid (r15solve_any CA CW CL CR CE CLo CHi a al ar bd cA cW cL cR cE cLo cHi)
  obtain ⟨⟨y0, y1, y2⟩, hy⟩ : ∃ y, solveT CA CW CL CR CE CLo CHi a al ar bd = y := ⟨_, rfl⟩
  rw [hy] at SO RS
  dsimp only at SO RS
  have EQ := Lib.hid (arr3_eql y0 y1 y2)
  clear hA hW hL hR hE hLo hHi cA cW cL cR cE cLo cHi qA qW qL qR qE qLo qHi hy
  go_enter Try.func5, Try.ntmps5
  go_wp2_with fail
  have KB : Hid (Below w.heap.size w (w.alloc (.cells #[.int .i64 A, .int .i64 W, .bool a, .int .i64 L, .int .i64 R, .bool al, .bool ar, .int .i64 E, .int .i64 Lo, .int .i64 Hi, .bool bd] 41))) := Lib.hid (bel_newR _ _)
  have KT : Hid (Tab (w.alloc (.cells #[.int .i64 A, .int .i64 W, .bool a, .int .i64 L, .int .i64 R, .bool al, .bool ar, .int .i64 E, .int .i64 Lo, .int .i64 Hi, .bool bd] 41)) [(w.heap.size, [.int .i64 A, .int .i64 W, .bool a, .int .i64 L, .int .i64 R, .bool al, .bool ar, .int .i64 E, .int .i64 Lo, .int .i64 Hi, .bool bd])]) := Lib.hid ((Tab.nil w).new' _ _ rfl)
  refine (SP.out _).mono ?_
  rintro e w1 ⟨rfl, hb⟩
  have KB := Lib.hid (bel_tr0 KB.out hb)
  have KT := Lib.hid (KT.out.later hb)
  clear hb
  have c0 := KT.out.cell 0 0 rfl rfl
  have c1 := KT.out.cell 0 1 rfl rfl
  have c2 := KT.out.cell 0 2 rfl rfl
  have c3 := KT.out.cell 0 3 rfl rfl
  have c4 := KT.out.cell 0 4 rfl rfl
  have c5 := KT.out.cell 0 5 rfl rfl
  have c6 := KT.out.cell 0 6 rfl rfl
  have c7 := KT.out.cell 0 7 rfl rfl
  have c8 := KT.out.cell 0 8 rfl rfl
  have c9 := KT.out.cell 0 9 rfl rfl
  have c10 := KT.out.cell 0 10 rfl rfl
  go_wp2_with fail
  refine (CU.out _).mono ?_
  rintro e w2 ⟨rfl, hb⟩
  have KB := Lib.hid (bel_tr0 KB.out hb)
  have KT := Lib.hid (KT.out.later hb)
  clear hb c0 c1 c2 c3 c4 c5 c6 c7 c8 c9 c10
  have c0 := KT.out.cell 0 0 rfl rfl
  have cf0 := KT.out.froz 0 0 rfl rfl
  have c1 := KT.out.cell 0 1 rfl rfl
  have cf1 := KT.out.froz 0 1 rfl rfl
  have c2 := KT.out.cell 0 2 rfl rfl
  have cf2 := KT.out.froz 0 2 rfl rfl
  have c3 := KT.out.cell 0 3 rfl rfl
  have cf3 := KT.out.froz 0 3 rfl rfl
  have c4 := KT.out.cell 0 4 rfl rfl
  have cf4 := KT.out.froz 0 4 rfl rfl
  have c5 := KT.out.cell 0 5 rfl rfl
  have cf5 := KT.out.froz 0 5 rfl rfl
  have c6 := KT.out.cell 0 6 rfl rfl
  have cf6 := KT.out.froz 0 6 rfl rfl
  have c7 := KT.out.cell 0 7 rfl rfl
  have cf7 := KT.out.froz 0 7 rfl rfl
  have c8 := KT.out.cell 0 8 rfl rfl
  have cf8 := KT.out.froz 0 8 rfl rfl
  have c9 := KT.out.cell 0 9 rfl rfl
  have cf9 := KT.out.froz 0 9 rfl rfl
  have c10 := KT.out.cell 0 10 rfl rfl
  have cf10 := KT.out.froz 0 10 rfl rfl
  obtain ⟨w3, hw⟩ : ∃ x, (((((((((((w2.setCell ⟨w.heap.size, 0, none⟩ (.int .i64 CA)).setCell ⟨w.heap.size, 1, none⟩ (.int .i64 CW)).setCell ⟨w.heap.size, 2, none⟩ (.bool a)).setCell ⟨w.heap.size, 3, none⟩ (.int .i64 CL)).setCell ⟨w.heap.size, 4, none⟩ (.int .i64 CR)).setCell ⟨w.heap.size, 5, none⟩ (.bool al)).setCell ⟨w.heap.size, 6, none⟩ (.bool ar)).setCell ⟨w.heap.size, 7, none⟩ (.int .i64 CE)).setCell ⟨w.heap.size, 8, none⟩ (.int .i64 CLo)).setCell ⟨w.heap.size, 9, none⟩ (.int .i64 CHi)).setCell ⟨w.heap.size, 10, none⟩ (.bool bd)) = x := ⟨_, rfl⟩
  have KTa : Hid (Tab w3 [(w.heap.size, [.int .i64 CA, .int .i64 CW, .bool a, .int .i64 CL, .int .i64 CR, .bool al, .bool ar, .int .i64 CE, .int .i64 CLo, .int .i64 CHi, .bool bd])]) := Lib.hid (by rw [← hw]; exact (((((((((((KT.out.set1 0 0 (.int .i64 CA) rfl (by simp)).set1 0 1 (.int .i64 CW) rfl (by simp)).set1 0 2 (.bool a) rfl (by simp)).set1 0 3 (.int .i64 CL) rfl (by simp)).set1 0 4 (.int .i64 CR) rfl (by simp)).set1 0 5 (.bool al) rfl (by simp)).set1 0 6 (.bool ar) rfl (by simp)).set1 0 7 (.int .i64 CE) rfl (by simp)).set1 0 8 (.int .i64 CLo) rfl (by simp)).set1 0 9 (.int .i64 CHi) rfl (by simp)).set1 0 10 (.bool bd) rfl (by simp)))
  have KB : Hid (Below w.heap.size w w3) := Lib.hid (by rw [← hw]; exact (((((((((((KB.out.setCell (Nat.le_refl _) _).setCell (Nat.le_refl _) _).setCell (Nat.le_refl _) _).setCell (Nat.le_refl _) _).setCell (Nat.le_refl _) _).setCell (Nat.le_refl _) _).setCell (Nat.le_refl _) _).setCell (Nat.le_refl _) _).setCell (Nat.le_refl _) _).setCell (Nat.le_refl _) _).setCell (Nat.le_refl _) _))
  go_upto_region 4 with fail
  clear hw c0 cf0 c1 cf1 c2 cf2 c3 cf3 c4 cf4 c5 cf5 c6 cf6 c7 cf7 c8 cf8 c9 cf9 c10 cf10
  have KT := KTa
  clear KTa
  have c0 := KT.out.cell 0 0 rfl rfl
  have c1 := KT.out.cell 0 1 rfl rfl
  have c2 := KT.out.cell 0 2 rfl rfl
  have c3 := KT.out.cell 0 3 rfl rfl
  have c4 := KT.out.cell 0 4 rfl rfl
  have c5 := KT.out.cell 0 5 rfl rfl
  have c6 := KT.out.cell 0 6 rfl rfl
  have c7 := KT.out.cell 0 7 rfl rfl
  have c8 := KT.out.cell 0 8 rfl rfl
  have c9 := KT.out.cell 0 9 rfl rfl
  have c10 := KT.out.cell 0 10 rfl rfl
  go_wp2_with fail
  refine (SO.out _).mono ?_
  rintro e w4 ⟨rfl, hb⟩
  have KB := Lib.hid (bel_tr0 KB.out hb)
  have KT := Lib.hid (KT.out.later hb)
  clear hb c0 c1 c2 c3 c4 c5 c6 c7 c8 c9 c10
  obtain ⟨b3, hb3⟩ : ∃ b, w4.heap.size = b := ⟨_, rfl⟩
  obtain ⟨w5, hw5⟩ : ∃ x, w4.alloc (.cells #[.int .i64 y0, .int .i64 y1, .int .i64 y2] 43) = x := ⟨_, rfl⟩
  have KT : Hid (Tab w5 [(b3, [.int .i64 y0, .int .i64 y1, .int .i64 y2]), (w.heap.size, [.int .i64 CA, .int .i64 CW, .bool a, .int .i64 CL, .int .i64 CR, .bool al, .bool ar, .int .i64 CE, .int .i64 CLo, .int .i64 CHi, .bool bd])]) := Lib.hid (by rw [← hw5]; exact KT.out.new' _ _ hb3.symm)
  have KB : Hid (Below w.heap.size w w5) := Lib.hid (by rw [← hw5]; exact bel_tr0 KB.out (bel_newR _ _))
  go_upto_region 5 with fail
  clear hw5 hb3
  go_wp2_with fail
  refine wp_region_vals [some (.int .i64 0), some (.bool true), some (.bool true), some (.agg #[.int .i64 y0, .int .i64 y1, .int .i64 y2]), some (.agg #[.int .i64 CA, .int .i64 CW, .bool a, .int .i64 CL, .int .i64 CR, .bool al, .bool ar, .int .i64 CE, .int .i64 CLo, .int .i64 CHi, .bool bd]), some (.agg #[.int .i64 y0, .int .i64 y1, .int .i64 y2]), some (.bool true), some (.bool true), some (.bool true)] (fun Lz _ wy => Below w.heap.size w wy ∧ Tab wy [(b3, [.int .i64 y0, .int .i64 y1, .int .i64 y2]), (w.heap.size, [.int .i64 CA, .int .i64 CW, .bool a, .int .i64 CL, .int .i64 CR, .bool al, .bool ar, .int .i64 CE, .int .i64 CLo, .int .i64 CHi, .bool bd])])
    [some 14, some 15, some 16, some 17, some 18, some 19, some 20, some 21, some 2] (by kernel_rfl) (by kernel_rfl) (by kernel_rfl) (by kernel_rfl) (by kernel_rfl) (by kernel_rfl) ⟨KB.out.drew, KT.out.later ((Below.refl _ _).drew)⟩ (fun i o ho => ?_) (fun Lz vz wz hL hB => ?_)
  · match i, ho with
    | 0, ho =>
      obtain rfl := Option.some.inj ho
      intro Az Lz vz wy Kz Ez hB k
      have e4 : Az.eval (.tmp 4) = .int .i64 0 := Ez.out 4 (by kernel_rfl)
      exact wpo_val (v := .int .i64 0) (run_move e4) (k _ _ rfl hB)
    | 1, ho =>
      obtain rfl := Option.some.inj ho
      intro Az Lz vz wy Kz Ez hB k
      have e14 : Az.eval (.tmp 14) = .int .i64 0 := Ez.dep 0 14 (by kernel_rfl) rfl
      exact wpo_val (v := .bool true) (run_bin e14 rfl (by simp [go_sem]) (by simp [go_sem])) (k _ _ rfl hB)
    | 2, ho =>
      obtain rfl := Option.some.inj ho
      intro Az Lz vz wy Kz Ez hB k
      have e15 : Az.eval (.tmp 15) = .bool true := Ez.dep 1 15 (by kernel_rfl) rfl
      exact wpo_val (v := .bool true) (run_move e15) (k _ _ rfl hB)
    | 3, ho =>
      obtain rfl := Option.some.inj ho
      intro Az Lz vz wy Kz Ez hB k
      have e3 : Az.eval (.tmp 3) = .pointer (some ⟨b3, 0, none⟩) := Ez.out 3 (by kernel_rfl)
      have c0_0 := hB.2.cell 0 0 rfl rfl
      have c0_1 := hB.2.cell 0 1 rfl rfl
      have c0_2 := hB.2.cell 0 2 rfl rfl
      exact wpo_val (v := .agg #[.int .i64 y0, .int .i64 y1, .int .i64 y2]) (run_load e3 (by simp [go_sem, c0_0, c0_1, c0_2])) (k _ _ rfl hB)
    | 4, ho =>
      obtain rfl := Option.some.inj ho
      intro Az Lz vz wy Kz Ez hB k
      have e1 : Az.eval (.tmp 1) = .pointer (some ⟨w.heap.size, 0, none⟩) := Ez.out 1 (by kernel_rfl)
      have c1_0 := hB.2.cell 1 0 rfl rfl
      have c1_1 := hB.2.cell 1 1 rfl rfl
      have c1_2 := hB.2.cell 1 2 rfl rfl
      have c1_3 := hB.2.cell 1 3 rfl rfl
      have c1_4 := hB.2.cell 1 4 rfl rfl
      have c1_5 := hB.2.cell 1 5 rfl rfl
      have c1_6 := hB.2.cell 1 6 rfl rfl
      have c1_7 := hB.2.cell 1 7 rfl rfl
      have c1_8 := hB.2.cell 1 8 rfl rfl
      have c1_9 := hB.2.cell 1 9 rfl rfl
      have c1_10 := hB.2.cell 1 10 rfl rfl
      exact wpo_val (v := .agg #[.int .i64 CA, .int .i64 CW, .bool a, .int .i64 CL, .int .i64 CR, .bool al, .bool ar, .int .i64 CE, .int .i64 CLo, .int .i64 CHi, .bool bd]) (run_load e1 (by simp [go_sem, c1_0, c1_1, c1_2, c1_3, c1_4, c1_5, c1_6, c1_7, c1_8, c1_9, c1_10])) (k _ _ rfl hB)
    | 5, ho =>
      obtain rfl := Option.some.inj ho
      intro Az Lz vz wy Kz Ez hB k
      have e18 : Az.eval (.tmp 18) = .agg #[.int .i64 CA, .int .i64 CW, .bool a, .int .i64 CL, .int .i64 CR, .bool al, .bool ar, .int .i64 CE, .int .i64 CLo, .int .i64 CHi, .bool bd] := Ez.dep 4 18 (by kernel_rfl) rfl
      refine wpo_call (run_callW (fun _ _ => by kernel_rfl)) (R := fun ez w' => ez = .returned (.agg #[.int .i64 y0, .int .i64 y1, .int .i64 y2]) ∧ Below wy.heap.size wy w') ?_ ?_
      · simp only [List.map_toArray, List.map_cons, List.map_nil, eval_const, e18]
        exact RS.out _
      · rintro ez w' ⟨rfl, hb⟩
        exact ⟨_, rfl, k _ _ rfl ⟨bel_tr0 hB.1 hb, hB.2.later hb⟩⟩
    | 6, ho =>
      obtain rfl := Option.some.inj ho
      intro Az Lz vz wy Kz Ez hB k
      have e17 : Az.eval (.tmp 17) = .agg #[.int .i64 y0, .int .i64 y1, .int .i64 y2] := Ez.dep 3 17 (by kernel_rfl) rfl
      have e19 : Az.eval (.tmp 19) = .agg #[.int .i64 y0, .int .i64 y1, .int .i64 y2] := Ez.dep 5 19 (by kernel_rfl) rfl
      exact wpo_val (v := .bool true) (run_bin e17 e19 (by simp [go_sem]) (by exact EQ.out wy)) (k _ _ rfl hB)
    | 7, ho =>
      obtain rfl := Option.some.inj ho
      intro Az Lz vz wy Kz Ez hB k
      have e16 : Az.eval (.tmp 16) = .bool true := Ez.dep 2 16 (by kernel_rfl) rfl
      have e20 : Az.eval (.tmp 20) = .bool true := Ez.dep 6 20 (by kernel_rfl) rfl
      exact wpo_val (v := .bool true) (run_pickT e16 e20) (k _ _ rfl hB)
    | 8, ho =>
      obtain rfl := Option.some.inj ho
      intro Az Lz vz wy Kz Ez hB k
      have e21 : Az.eval (.tmp 21) = .bool true := Ez.dep 7 21 (by kernel_rfl) rfl
      exact wpo_val (v := .bool true) (run_assign e21) (k _ _ rfl hB)
    | n + 9, ho => simp at ho
  · obtain ⟨hk, hT⟩ := hB
    have KB := Lib.hid hk
    have KT := Lib.hid hT
    clear hk hT hL
    simp only [puts2, mix, Act.put, List.setIfInBounds_toArray, List.set_cons_zero, List.set_cons_succ, Nat.zero_add, Nat.reduceAdd, List.getElem?_cons_zero, List.getElem?_cons_succ]

    go_wp2_with fail
    go_returns
    exact ⟨rfl, KB.out⟩
end Go.Proofs.Ytmelbgabiklojaa
