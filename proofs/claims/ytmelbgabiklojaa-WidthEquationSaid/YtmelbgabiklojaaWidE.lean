/- Law 15: the document's Solve; what is solved under Try; speaks. Made by gen/wide15.py. -/
import Derived.Test.YtmelbgabiklojaaWidD
import Derived.Deep.DeepCutAuto
import Derived.Deep.CutBlock
import Derived.WalkKit
import Derived.WalkSpells
import Derived.WalkLawsBesides
import Derived.Handy
import Derived.Lib.Hide
import Derived.Deep.QuietTactic
import Derived.BigQuiet
import Derived.LoopTactic
import Derived.Outline
namespace Go.Proofs.Ytmelbgabiklojaa
open Go.RowKit Go.Proofs.Reg Go.Proofs.Big Wid
set_option linter.unusedVariables false
set_option linter.unusedSimpArgs false
set_option maxRecDepth 100000
set_option maxHeartbeats 16000000 in
theorem r15solve_any (A W L R E Lo Hi : Int) (a al ar bd : Bool) (hA : Cu A) (hW : Cu W) (hL : Cu L) (hR : Cu R) (hE : Cu E) (h0 : Cu Lo) (h1 : Cu Hi) (w : World) : Calls Try.prog 24 #[.agg #[.int .i64 A, .int .i64 W, .bool a, .int .i64 L, .int .i64 R, .bool al, .bool ar, .int .i64 E, .int .i64 Lo, .int .i64 Hi, .bool bd]] w fun e w' => e = .returned (.agg #[.int .i64 (solveT A W L R E Lo Hi a al ar bd).1, .int .i64 (solveT A W L R E Lo Hi a al ar bd).2.1, .int .i64 (solveT A W L R E Lo Hi a al ar bd).2.2]) ∧ Below w.heap.size w w' := by
  have WS := Lib.hid (fun W a (h : Cu W) => r15once_any A W L R E Lo Hi a al ar bd hA h hL hR hE)
  have HW := Lib.hid hW
  have HLo := Lib.hid h0
  have HHi := Lib.hid h1
  obtain ⟨O, hO⟩ : ∃ O, solveT A W L R E Lo Hi a al ar bd = O := ⟨_, rfl⟩
  have HO : Hid (O = solveT A W L R E Lo Hi a al ar bd) := Lib.hid hO.symm
  rw [hO]
  clear hO hA hW hL hR hE h0 h1
  unfold solveT at HO
  go_enter Try.func24, Try.ntmps24
  go_wp2_with fail
  have KB : Hid (Below w.heap.size w ((w.alloc (.cells #[.int .i64 A, .int .i64 W, .bool a, .int .i64 L, .int .i64 R, .bool al, .bool ar, .int .i64 E, .int .i64 Lo, .int .i64 Hi, .bool bd] 47)).alloc (.cells #[.int .i64 0, .int .i64 0, .int .i64 0] 43))) := Lib.hid (bel_tr0 (bel_newR _ _) (bel_newR _ _))
  have KT : Hid (Tab ((w.alloc (.cells #[.int .i64 A, .int .i64 W, .bool a, .int .i64 L, .int .i64 R, .bool al, .bool ar, .int .i64 E, .int .i64 Lo, .int .i64 Hi, .bool bd] 47)).alloc (.cells #[.int .i64 0, .int .i64 0, .int .i64 0] 43)) [(w.heap.size + 1, [.int .i64 0, .int .i64 0, .int .i64 0]), (w.heap.size, [.int .i64 A, .int .i64 W, .bool a, .int .i64 L, .int .i64 R, .bool al, .bool ar, .int .i64 E, .int .i64 Lo, .int .i64 Hi, .bool bd])]) := Lib.hid (((Tab.nil w).new' _ _ rfl).new' _ _ (by simp))
  refine (WS.out W a HW.out _).mono ?_
  rintro e w1 ⟨rfl, hb⟩
  have KB := Lib.hid (bel_tr0 KB.out hb)
  have KT := Lib.hid (KT.out.later hb)
  clear hb
  obtain ⟨⟨x0, x1, x2⟩, ho1⟩ : ∃ o, onceT A W L R E a al ar = o := ⟨_, rfl⟩
  rw [ho1] at HO ⊢
  clear ho1
  dsimp only at HO ⊢
  obtain ⟨b3, hb3⟩ : ∃ b, w1.heap.size = b := ⟨_, rfl⟩
  have LB : Hid (w.heap.size ≤ b3) := Lib.hid (by rw [← hb3]; exact KB.out.size)
  have lt1 : w.heap.size + 1 < b3 := by rw [← hb3]; exact KT.out.lt 0 rfl
  have ND : Hid ((([b3, w.heap.size + 1, w.heap.size] : List Nat)).Nodup) := Lib.hid (by simp; omega)
  obtain ⟨w2, hw2⟩ : ∃ x, w1.alloc (.cells #[.int .i64 x0, .int .i64 x1, .int .i64 x2] 43) = x := ⟨_, rfl⟩
  have KT2 : Hid (Tab w2 [(b3, [.int .i64 x0, .int .i64 x1, .int .i64 x2]), (w.heap.size + 1, [.int .i64 0, .int .i64 0, .int .i64 0]), (w.heap.size, [.int .i64 A, .int .i64 W, .bool a, .int .i64 L, .int .i64 R, .bool al, .bool ar, .int .i64 E, .int .i64 Lo, .int .i64 Hi, .bool bd])]) := Lib.hid (by rw [← hw2]; exact KT.out.new' _ _ hb3.symm)
  have KB2 : Hid (Below w.heap.size w w2) := Lib.hid (by rw [← hw2]; exact bel_tr0 KB.out (bel_newR _ _))
  go_upto_region 2 with fail
  clear KT KB hw2 hb3 lt1
  obtain ⟨c, hc⟩ : ∃ c : Bool, c = (bd && decide (Hi < x0)) := ⟨_, rfl⟩
  have HC := Lib.hid hc
  have HO : Hid (O = if (if c = true then onceT A Hi L R E false al ar else (x0, x1, x2)).1 < Lo then onceT A Lo L R E false al ar else (if c = true then onceT A Hi L R E false al ar else (x0, x1, x2))) := Lib.hid (by
    rw [HO.out, hc]
    simp only [Bool.and_eq_true, decide_eq_true_eq])
  clear hc
  have g0 := KT2.out.cell 0 0 rfl rfl
  have c9 := KT2.out.cell 2 9 rfl rfl
  have c10 := KT2.out.cell 2 10 rfl rfl
  go_cut [14] (fun s16 wx => s16 = .bool c ∧ wx = w2)
  case first =>
    cases bd
    · obtain rfl : c = false := HC.out
      go_wp2_with fail
      go_meet
      exact ⟨rfl, rfl⟩
    · by_cases q : Hi < x0
      · obtain rfl : c = true := by rw [HC.out]; simp [q]
        go_wp2_with fail
        go_meet
        exact ⟨rfl, rfl⟩
      · obtain rfl : c = false := by rw [HC.out]; simp [q]
        go_wp2_with fail
        go_meet
        exact ⟨rfl, rfl⟩
  case rest =>
    obtain ⟨rfl, hwx⟩ := hcut
    obtain rfl := hwx.symm
    clear g0 c9 c10
    go_upto_if 14 with fail
    go_cut [] (fun wx => ∃ (wq : World) (W1 : Int) (a1 : Bool) (x0 x1 x2 : Int), wq = wx ∧ Hid (Tab wq [(b3, [.int .i64 x0, .int .i64 x1, .int .i64 x2]), (w.heap.size + 1, [.int .i64 0, .int .i64 0, .int .i64 0]), (w.heap.size, [.int .i64 A, .int .i64 W1, .bool a1, .int .i64 L, .int .i64 R, .bool al, .bool ar, .int .i64 E, .int .i64 Lo, .int .i64 Hi, .bool bd])]) ∧ Hid (Below w.heap.size w wq) ∧ Hid (O = if x0 < Lo then onceT A Lo L R E false al ar else (x0, x1, x2)))
    case first =>
      cases c
      · go_wp2_with fail
        go_meet
        exact ⟨_, W, a, x0, x1, x2, rfl, KT2, KB2, HO⟩
      · have HO : Hid (O = if (onceT A Hi L R E false al ar).1 < Lo then onceT A Lo L R E false al ar else onceT A Hi L R E false al ar) := HO
        have KT := KT2
        have KB := KB2
        have c0 := KT.out.cell 2 0 rfl rfl
        have cf0 := KT.out.froz 2 0 rfl rfl
        have c1 := KT.out.cell 2 1 rfl rfl
        have cf1 := KT.out.froz 2 1 rfl rfl
        have c2 := KT.out.cell 2 2 rfl rfl
        have cf2 := KT.out.froz 2 2 rfl rfl
        have c3 := KT.out.cell 2 3 rfl rfl
        have cf3 := KT.out.froz 2 3 rfl rfl
        have c4 := KT.out.cell 2 4 rfl rfl
        have cf4 := KT.out.froz 2 4 rfl rfl
        have c5 := KT.out.cell 2 5 rfl rfl
        have cf5 := KT.out.froz 2 5 rfl rfl
        have c6 := KT.out.cell 2 6 rfl rfl
        have cf6 := KT.out.froz 2 6 rfl rfl
        have c7 := KT.out.cell 2 7 rfl rfl
        have cf7 := KT.out.froz 2 7 rfl rfl
        have c8 := KT.out.cell 2 8 rfl rfl
        have cf8 := KT.out.froz 2 8 rfl rfl
        have c9 := KT.out.cell 2 9 rfl rfl
        have cf9 := KT.out.froz 2 9 rfl rfl
        have c10 := KT.out.cell 2 10 rfl rfl
        have cf10 := KT.out.froz 2 10 rfl rfl
        obtain ⟨w2a, hw⟩ : ∃ x, ((w2.setCell ⟨w.heap.size, 1, none⟩ (.int .i64 Hi)).setCell ⟨w.heap.size, 2, none⟩ (.bool false)) = x := ⟨_, rfl⟩
        have KTa : Hid (Tab w2a [(b3, [.int .i64 x0, .int .i64 x1, .int .i64 x2]), (w.heap.size + 1, [.int .i64 0, .int .i64 0, .int .i64 0]), (w.heap.size, [.int .i64 A, .int .i64 Hi, .bool false, .int .i64 L, .int .i64 R, .bool al, .bool ar, .int .i64 E, .int .i64 Lo, .int .i64 Hi, .bool bd])]) := Lib.hid (by rw [← hw]; exact (KT.out.set1 2 1 (.int .i64 Hi) rfl ND.out).set1 2 2 (.bool false) rfl ND.out)
        have KB : Hid (Below w.heap.size w w2a) := Lib.hid (by rw [← hw]; exact (KB.out.setCell (Nat.le_refl _) _).setCell (Nat.le_refl _) _)
        go_upto_region 4 with fail
        clear hw c0 cf0 c1 cf1 c2 cf2 c3 cf3 c4 cf4 c5 cf5 c6 cf6 c7 cf7 c8 cf8 c9 cf9 c10 cf10
        have KT := KTa
        clear KTa
        have c0 := KT.out.cell 2 0 rfl rfl
        have c1 := KT.out.cell 2 1 rfl rfl
        have c2 := KT.out.cell 2 2 rfl rfl
        have c3 := KT.out.cell 2 3 rfl rfl
        have c4 := KT.out.cell 2 4 rfl rfl
        have c5 := KT.out.cell 2 5 rfl rfl
        have c6 := KT.out.cell 2 6 rfl rfl
        have c7 := KT.out.cell 2 7 rfl rfl
        have c8 := KT.out.cell 2 8 rfl rfl
        have c9 := KT.out.cell 2 9 rfl rfl
        have c10 := KT.out.cell 2 10 rfl rfl
        go_wp2_with fail
        refine (WS.out Hi false HHi.out _).mono ?_
        rintro e w2b ⟨rfl, hb⟩
        have KB := Lib.hid (bel_tr0 KB.out hb)
        have KT := Lib.hid (KT.out.later hb)
        clear hb c0 c1 c2 c3 c4 c5 c6 c7 c8 c9 c10
        obtain ⟨⟨y0, y1, y2⟩, hoy⟩ : ∃ o, onceT A Hi L R E false al ar = o := ⟨_, rfl⟩
        rw [hoy] at HO ⊢
        have g0 := KT.out.cell 0 0 rfl rfl
        have gf0 := KT.out.froz 0 0 rfl rfl
        have g1 := KT.out.cell 0 1 rfl rfl
        have gf1 := KT.out.froz 0 1 rfl rfl
        have g2 := KT.out.cell 0 2 rfl rfl
        have gf2 := KT.out.froz 0 2 rfl rfl
        obtain ⟨w2c, hw⟩ : ∃ x, (((w2b.setCell ⟨b3, 0, none⟩ (.int .i64 y0)).setCell ⟨b3, 1, none⟩ (.int .i64 y1)).setCell ⟨b3, 2, none⟩ (.int .i64 y2)) = x := ⟨_, rfl⟩
        have KT : Hid (Tab w2c [(b3, [.int .i64 y0, .int .i64 y1, .int .i64 y2]), (w.heap.size + 1, [.int .i64 0, .int .i64 0, .int .i64 0]), (w.heap.size, [.int .i64 A, .int .i64 Hi, .bool false, .int .i64 L, .int .i64 R, .bool al, .bool ar, .int .i64 E, .int .i64 Lo, .int .i64 Hi, .bool bd])]) := Lib.hid (by rw [← hw]; exact (((KT.out.set1 0 0 (.int .i64 y0) rfl ND.out).set1 0 1 (.int .i64 y1) rfl ND.out).set1 0 2 (.int .i64 y2) rfl ND.out))
        have KB : Hid (Below w.heap.size w w2c) := Lib.hid (by rw [← hw]; exact ((KB.out.setCell LB.out _).setCell LB.out _).setCell LB.out _)
        go_wp2_with fail
        go_meet
        exact ⟨_, Hi, false, y0, y1, y2, rfl, KT, KB, HO⟩
    case rest =>
      obtain ⟨wq, W1, a1, x0, x1, x2, rfl, KT, KB, HO⟩ := hcut
      clear KT2 KB2 HC
      have c8 := KT.out.cell 2 8 rfl rfl
      have g0 := KT.out.cell 0 0 rfl rfl
      by_cases q : x0 < Lo
      · have HO : Hid (O = onceT A Lo L R E false al ar) := Lib.hid (by rw [HO.out, if_pos q])
        have c0 := KT.out.cell 2 0 rfl rfl
        have cf0 := KT.out.froz 2 0 rfl rfl
        have c1 := KT.out.cell 2 1 rfl rfl
        have cf1 := KT.out.froz 2 1 rfl rfl
        have c2 := KT.out.cell 2 2 rfl rfl
        have cf2 := KT.out.froz 2 2 rfl rfl
        have c3 := KT.out.cell 2 3 rfl rfl
        have cf3 := KT.out.froz 2 3 rfl rfl
        have c4 := KT.out.cell 2 4 rfl rfl
        have cf4 := KT.out.froz 2 4 rfl rfl
        have c5 := KT.out.cell 2 5 rfl rfl
        have cf5 := KT.out.froz 2 5 rfl rfl
        have c6 := KT.out.cell 2 6 rfl rfl
        have cf6 := KT.out.froz 2 6 rfl rfl
        have c7 := KT.out.cell 2 7 rfl rfl
        have cf7 := KT.out.froz 2 7 rfl rfl
        have c8 := KT.out.cell 2 8 rfl rfl
        have cf8 := KT.out.froz 2 8 rfl rfl
        have c9 := KT.out.cell 2 9 rfl rfl
        have cf9 := KT.out.froz 2 9 rfl rfl
        have c10 := KT.out.cell 2 10 rfl rfl
        have cf10 := KT.out.froz 2 10 rfl rfl
        obtain ⟨wqa, hw⟩ : ∃ x, ((wq.setCell ⟨w.heap.size, 1, none⟩ (.int .i64 Lo)).setCell ⟨w.heap.size, 2, none⟩ (.bool false)) = x := ⟨_, rfl⟩
        have KTa : Hid (Tab wqa [(b3, [.int .i64 x0, .int .i64 x1, .int .i64 x2]), (w.heap.size + 1, [.int .i64 0, .int .i64 0, .int .i64 0]), (w.heap.size, [.int .i64 A, .int .i64 Lo, .bool false, .int .i64 L, .int .i64 R, .bool al, .bool ar, .int .i64 E, .int .i64 Lo, .int .i64 Hi, .bool bd])]) := Lib.hid (by rw [← hw]; exact (KT.out.set1 2 1 (.int .i64 Lo) rfl ND.out).set1 2 2 (.bool false) rfl ND.out)
        have KB : Hid (Below w.heap.size w wqa) := Lib.hid (by rw [← hw]; exact (KB.out.setCell (Nat.le_refl _) _).setCell (Nat.le_refl _) _)
        go_upto_region 7 with fail
        clear hw c0 cf0 c1 cf1 c2 cf2 c3 cf3 c4 cf4 c5 cf5 c6 cf6 c7 cf7 c8 cf8 c9 cf9 c10 cf10
        have KT := KTa
        clear KTa
        have c0 := KT.out.cell 2 0 rfl rfl
        have c1 := KT.out.cell 2 1 rfl rfl
        have c2 := KT.out.cell 2 2 rfl rfl
        have c3 := KT.out.cell 2 3 rfl rfl
        have c4 := KT.out.cell 2 4 rfl rfl
        have c5 := KT.out.cell 2 5 rfl rfl
        have c6 := KT.out.cell 2 6 rfl rfl
        have c7 := KT.out.cell 2 7 rfl rfl
        have c8 := KT.out.cell 2 8 rfl rfl
        have c9 := KT.out.cell 2 9 rfl rfl
        have c10 := KT.out.cell 2 10 rfl rfl
        go_wp2_with fail
        refine (WS.out Lo false HLo.out _).mono ?_
        rintro e wqb ⟨rfl, hb⟩
        have KB := Lib.hid (bel_tr0 KB.out hb)
        have KT := Lib.hid (KT.out.later hb)
        clear hb c0 c1 c2 c3 c4 c5 c6 c7 c8 c9 c10
        obtain ⟨⟨z0, z1, z2⟩, hoz⟩ : ∃ o, onceT A Lo L R E false al ar = o := ⟨_, rfl⟩
        rw [hoz] at HO ⊢
        have g0 := KT.out.cell 0 0 rfl rfl
        have gf0 := KT.out.froz 0 0 rfl rfl
        have g1 := KT.out.cell 0 1 rfl rfl
        have gf1 := KT.out.froz 0 1 rfl rfl
        have g2 := KT.out.cell 0 2 rfl rfl
        have gf2 := KT.out.froz 0 2 rfl rfl
        obtain ⟨wqc, hw⟩ : ∃ x, (((wqb.setCell ⟨b3, 0, none⟩ (.int .i64 z0)).setCell ⟨b3, 1, none⟩ (.int .i64 z1)).setCell ⟨b3, 2, none⟩ (.int .i64 z2)) = x := ⟨_, rfl⟩
        have KT : Hid (Tab wqc [(b3, [.int .i64 z0, .int .i64 z1, .int .i64 z2]), (w.heap.size + 1, [.int .i64 0, .int .i64 0, .int .i64 0]), (w.heap.size, [.int .i64 A, .int .i64 Lo, .bool false, .int .i64 L, .int .i64 R, .bool al, .bool ar, .int .i64 E, .int .i64 Lo, .int .i64 Hi, .bool bd])]) := Lib.hid (by rw [← hw]; exact (((KT.out.set1 0 0 (.int .i64 z0) rfl ND.out).set1 0 1 (.int .i64 z1) rfl ND.out).set1 0 2 (.int .i64 z2) rfl ND.out))
        have KB : Hid (Below w.heap.size w wqc) := Lib.hid (by rw [← hw]; exact ((KB.out.setCell LB.out _).setCell LB.out _).setCell LB.out _)
        go_upto_region 8 with fail
        clear hw g0 gf0 g1 gf1 g2 gf2
        have d0 := KT.out.cell 1 0 rfl rfl
        have df0 := KT.out.froz 1 0 rfl rfl
        have d1 := KT.out.cell 1 1 rfl rfl
        have df1 := KT.out.froz 1 1 rfl rfl
        have d2 := KT.out.cell 1 2 rfl rfl
        have df2 := KT.out.froz 1 2 rfl rfl
        have g0 := KT.out.cell 0 0 rfl rfl
        have gf0 := KT.out.froz 0 0 rfl rfl
        have g1 := KT.out.cell 0 1 rfl rfl
        have gf1 := KT.out.froz 0 1 rfl rfl
        have g2 := KT.out.cell 0 2 rfl rfl
        have gf2 := KT.out.froz 0 2 rfl rfl
        have lt := KT.out.lt 1 rfl
        have FIN : Hid (∀ x0 x1 x2, Below w.heap.size w (((wqc.setCell ⟨w.heap.size + 1, 0, none⟩ x0).setCell ⟨w.heap.size + 1, 1, none⟩ x1).setCell ⟨w.heap.size + 1, 2, none⟩ x2)) := Lib.hid (fun x0 x1 x2 => (((KB.out.setCell (by show w.heap.size ≤ w.heap.size + 1; omega) _).setCell (by show w.heap.size ≤ w.heap.size + 1; omega) _).setCell (by show w.heap.size ≤ w.heap.size + 1; omega) _))
        go_wp2_with fail
        refine bodyPost_ret (v := .agg #[.int .i64 z0, .int .i64 z1, .int .i64 z2]) (by simp [results, Try.results24, go_sem, d0, d1, d2, lt]) rfl ?_
        exact ⟨by rw [HO.out], FIN.out _ _ _⟩
      · have HO : Hid (O = (x0, x1, x2)) := Lib.hid (by rw [HO.out, if_neg q])
        have d0 := KT.out.cell 1 0 rfl rfl
        have df0 := KT.out.froz 1 0 rfl rfl
        have d1 := KT.out.cell 1 1 rfl rfl
        have df1 := KT.out.froz 1 1 rfl rfl
        have d2 := KT.out.cell 1 2 rfl rfl
        have df2 := KT.out.froz 1 2 rfl rfl
        have g0 := KT.out.cell 0 0 rfl rfl
        have gf0 := KT.out.froz 0 0 rfl rfl
        have g1 := KT.out.cell 0 1 rfl rfl
        have gf1 := KT.out.froz 0 1 rfl rfl
        have g2 := KT.out.cell 0 2 rfl rfl
        have gf2 := KT.out.froz 0 2 rfl rfl
        have lt := KT.out.lt 1 rfl
        have FIN : Hid (∀ x0 x1 x2, Below w.heap.size w (((wq.setCell ⟨w.heap.size + 1, 0, none⟩ x0).setCell ⟨w.heap.size + 1, 1, none⟩ x1).setCell ⟨w.heap.size + 1, 2, none⟩ x2)) := Lib.hid (fun x0 x1 x2 => (((KB.out.setCell (by show w.heap.size ≤ w.heap.size + 1; omega) _).setCell (by show w.heap.size ≤ w.heap.size + 1; omega) _).setCell (by show w.heap.size ≤ w.heap.size + 1; omega) _))
        go_wp2_with fail
        refine bodyPost_ret (v := .agg #[.int .i64 x0, .int .i64 x1, .int .i64 x2]) (by simp [results, Try.results24, go_sem, d0, d1, d2, lt]) rfl ?_
        exact ⟨by rw [HO.out], FIN.out _ _ _⟩
def slV (o : Option (Int × Int × Int)) : Int × Int × Int := match o with
  | some x => x
  | none => (0, 0, 0)
def slE (o : Option (Int × Int × Int)) : Int := match o with
  | some _ => 0
  | none => 2
def out3 (g : Nat) (x : Int × Int × Int) : List (Addr × Value) := [(⟨g, 0, none⟩, .int .i64 x.1), (⟨g, 1, none⟩, .int .i64 x.2.1), (⟨g, 2, none⟩, .int .i64 x.2.2)]
theorem out3_of {w : World} {g : Nat} {y0 y1 y2 : Int} (h : Tab w [(g, [.int .i64 y0, .int .i64 y1, .int .i64 y2])]) : Vars w (out3 g (y0, y1, y2)) := fun x hx => by
  simp only [out3, List.mem_cons, List.not_mem_nil, or_false] at hx
  rcases hx with rfl | rfl | rfl
  · exact ⟨h.cell 0 0 rfl rfl, h.froz 0 0 rfl rfl⟩
  · exact ⟨h.cell 0 1 rfl rfl, h.froz 0 1 rfl rfl⟩
  · exact ⟨h.cell 0 2 rfl rfl, h.froz 0 2 rfl rfl⟩
theorem out3_lt {w : World} {g : Nat} (h : g < w.heap.size) (y : Int × Int × Int) : ∀ x ∈ out3 g y, x.1.block < w.heap.size := fun x hx => by
  simp only [out3, List.mem_cons, List.not_mem_nil, or_false] at hx
  rcases hx with rfl | rfl | rfl <;> exact h
theorem tab_but15 {bs : List Nat} {w w' : World} {l : List (Nat × List Value)} (h : Tab w l) (hb : But bs w w') (hn : ∀ (k b : Nat) (vs : List Value), l[k]? = some (b, vs) → b ∉ bs) : Tab w' l := fun k b vs hk i v hi => by
  obtain ⟨c, f⟩ := h k b vs hk i v hi
  exact ⟨hb.cell (hn k b vs hk) c, (hb.frozen (p := ⟨b, i, none⟩) (hn k b vs hk) (World.block_lt_of_cell? w _ c)).trans f⟩
theorem slc_in (b g : Nat) (A W L R E Lo Hi : Int) (a al ar bd : Bool) (w : World) (hT : Tab w [(b, [.int .i64 A, .int .i64 W, .bool a, .int .i64 L, .int .i64 R, .bool al, .bool ar, .int .i64 E, .int .i64 Lo, .int .i64 Hi, .bool bd])]) (hG : Tab w [(g, [.int .i64 0, .int .i64 0, .int .i64 0])]) (O : Option (Int × Int × Int)) (hF : ∀ w, Calls Try.prog 43 #[.agg #[.int .i64 A, .int .i64 W, .bool a, .int .i64 L, .int .i64 R, .bool al, .bool ar, .int .i64 E, .int .i64 Lo, .int .i64 Hi, .bool bd]] w fun e w' => OcR O e ∧ Below w.heap.size w w') :
    Calls Try.prog 45 #[.pointer (some ⟨b, 0, none⟩), .pointer (some ⟨g, 0, none⟩)] w fun e w' => ((O.isSome = true ∧ e = .returned (.tuple #[]) ∧ Vars w' (out3 g (slV O))) ∨ (O = none ∧ e = .panicked (gave 2) ∧ Vars w' (out3 g (0, 0, 0)))) ∧ But [g] w w' := by
  have HF := Lib.hid hF
  have HT := Lib.hid hT
  have HG := Lib.hid hG
  have TO := Lib.hid (told15_any A W L R E Lo Hi a al ar bd)
  have c0 := HT.out.cell 0 0 rfl rfl
  have c1 := HT.out.cell 0 1 rfl rfl
  have c2 := HT.out.cell 0 2 rfl rfl
  have c3 := HT.out.cell 0 3 rfl rfl
  have c4 := HT.out.cell 0 4 rfl rfl
  have c5 := HT.out.cell 0 5 rfl rfl
  have c6 := HT.out.cell 0 6 rfl rfl
  have c7 := HT.out.cell 0 7 rfl rfl
  have c8 := HT.out.cell 0 8 rfl rfl
  have c9 := HT.out.cell 0 9 rfl rfl
  have c10 := HT.out.cell 0 10 rfl rfl
  clear hF hT hG
  go_enter Try.func45, Try.ntmps45
  go_wp2_with fail
  refine (TO.out _).mono ?_
  rintro e w1 ⟨rfl, hb⟩
  have G1 := Lib.hid (HG.out.later hb)
  have B1 := Lib.hid (But.of (bs := [g]) hb)
  clear hb c0 c1 c2 c3 c4 c5 c6 c7 c8 c9 c10 HT HG
  go_wp2_with fail
  refine (HF.out _).mono ?_
  rintro e w2 ⟨he, hb⟩
  have G2 := Lib.hid (G1.out.later hb)
  have B2 := Lib.hid (B1.out.trans (But.of (bs := [g]) hb))
  clear hb G1 B1
  rcases O with _ | ⟨y0, y1, y2⟩
  · obtain rfl : e = .panicked (gave 2) := he
    exact ⟨rfl, .inr ⟨rfl, rfl, out3_of G2.out⟩, B2.out⟩
  · obtain rfl : e = .returned (.agg #[.int .i64 y0, .int .i64 y1, .int .i64 y2]) := he
    have d0 := G2.out.cell 0 0 rfl rfl
    have d1 := G2.out.cell 0 1 rfl rfl
    have d2 := G2.out.cell 0 2 rfl rfl
    have f0 := G2.out.froz 0 0 rfl rfl
    have f1 := G2.out.froz 0 1 rfl rfl
    have f2 := G2.out.froz 0 2 rfl rfl
    go_wp2_with fail
    go_end0
    have T3 := ((G2.out.set1 0 0 (.int .i64 y0) rfl (by simp)).set1 0 1 (.int .i64 y1) rfl (by simp)).set1 0 2 (.int .i64 y2) rfl (by simp)
    first
    | exact ⟨.inl ⟨rfl, rfl, out3_of T3⟩, ((B2.out.setCell (.inl (by simp)) _).setCell (.inl (by simp)) _).setCell (.inl (by simp)) _⟩
    | exact ⟨⟨rfl, out3_of T3⟩, ((B2.out.setCell (.inl (by simp)) _).setCell (.inl (by simp)) _).setCell (.inl (by simp)) _⟩
    | exact ⟨out3_of T3, ((B2.out.setCell (.inl (by simp)) _).setCell (.inl (by simp)) _).setCell (.inl (by simp)) _⟩
theorem slc_try (b g : Nat) (A W L R E Lo Hi : Int) (a al ar bd : Bool) (w : World) (hT : Tab w [(b, [.int .i64 A, .int .i64 W, .bool a, .int .i64 L, .int .i64 R, .bool al, .bool ar, .int .i64 E, .int .i64 Lo, .int .i64 Hi, .bool bd])]) (hG : Tab w [(g, [.int .i64 0, .int .i64 0, .int .i64 0])]) (O : Option (Int × Int × Int)) (hF : ∀ w, Calls Try.prog 43 #[.agg #[.int .i64 A, .int .i64 W, .bool a, .int .i64 L, .int .i64 R, .bool al, .bool ar, .int .i64 E, .int .i64 Lo, .int .i64 Hi, .bool bd]] w fun e w' => OcR O e ∧ Below w.heap.size w w') :
    Calls Try.prog 12 #[.func (.func 45) #[] #[.pointer (some ⟨b, 0, none⟩), .pointer (some ⟨g, 0, none⟩)]] w fun e w' => e = .returned (.int .i64 (slE O)) ∧ But [g] w w' ∧ Vars w' (out3 g (slV O)) := by
  have ba : Below w.heap.size w (w.alloc (.cells #[.int .i64 0] 28)) := (Below.refl _ _).alloc (Nat.le_refl _) _
  have lg := hG.lt 0 rfl
  have C := slc_in b g A W L R E Lo Hi a al ar bd _ (hT.later ba) (hG.later ba) O hF
  have hbs : ∀ i ∈ [g], i < w.heap.size := fun i hi => by obtain rfl := List.mem_singleton.1 hi; exact lg
  cases O with
  | none =>
    refine tryB_gave 45 _ 2 [g] (out3 g (0, 0, 0)) w hbs (out3_lt lg _) (fun _ => by kernel_rfl) (C.mono ?_)
    rintro e w' ⟨he, hb⟩
    rcases he with ⟨h, _⟩ | ⟨_, he, hv⟩
    · cases h
    · exact ⟨he, hb, hv⟩
  | some y =>
    refine tryB_ret 45 _ [g] (out3 g y) w hbs (out3_lt lg _) (fun _ => by kernel_rfl) (C.mono ?_)
    rintro e w' ⟨he, hb⟩
    rcases he with ⟨_, he, hv⟩ | ⟨h, _⟩
    · exact ⟨he, hb, hv⟩
    · cases h
set_option maxHeartbeats 4000000 in
theorem solved15_any (A W L R E Lo Hi : Int) (a al ar bd : Bool) (w : World) : Calls Try.prog 23 #[.agg #[.int .i64 A, .int .i64 W, .bool a, .int .i64 L, .int .i64 R, .bool al, .bool ar, .int .i64 E, .int .i64 Lo, .int .i64 Hi, .bool bd]] w fun e w' => e = .returned (.tuple #[.agg #[.int .i64 (slV (solveE A W L R E Lo Hi a al ar bd)).1, .int .i64 (slV (solveE A W L R E Lo Hi a al ar bd)).2.1, .int .i64 (slV (solveE A W L R E Lo Hi a al ar bd)).2.2], .int .i64 (slE (solveE A W L R E Lo Hi a al ar bd))]) ∧ Below w.heap.size w w' := by
  have hmf : ∀ (fn : Fn) (first cap : Array Value) (w : World), (Instr.makeFunc fn first cap).run Try.prog w = .ok (.func fn first cap) w := fun _ _ _ _ => rfl
  have WS := Lib.hid (wsolve_any A W L R E Lo Hi a al ar bd)
  generalize solveE A W L R E Lo Hi a al ar bd = O at *
  obtain ⟨y0, hy0⟩ : ∃ y, (slV O).1 = y := ⟨_, rfl⟩
  obtain ⟨y1, hy1⟩ : ∃ y, (slV O).2.1 = y := ⟨_, rfl⟩
  obtain ⟨y2, hy2⟩ : ∃ y, (slV O).2.2 = y := ⟨_, rfl⟩
  obtain ⟨er, her⟩ : ∃ y, slE O = y := ⟨_, rfl⟩
  rw [hy0, hy1, hy2, her]
  have H0 := Lib.hid hy0
  have H1 := Lib.hid hy1
  have H2 := Lib.hid hy2
  have H3 := Lib.hid her
  clear hy0 hy1 hy2 her
  go_enter Try.func23, Try.ntmps23
  go_wp2_with fail
  obtain ⟨w0, hw0⟩ : ∃ x, ((w.alloc (.cells #[.int .i64 A, .int .i64 W, .bool a, .int .i64 L, .int .i64 R, .bool al, .bool ar, .int .i64 E, .int .i64 Lo, .int .i64 Hi, .bool bd] 41)).alloc (.cells #[.int .i64 0, .int .i64 0, .int .i64 0] 43)).alloc (.cells #[.int .i64 0, .int .i64 0, .int .i64 0] 73) = x := ⟨_, rfl⟩
  rw [hw0]
  have KB : Hid (Below w.heap.size w w0) := Lib.hid (by rw [← hw0]; exact bel_tr0 (bel_tr0 (bel_newR _ _) (bel_newR _ _)) (bel_newR _ _))
  have KT : Hid (Tab w0 [(w.heap.size + 2, [.int .i64 0, .int .i64 0, .int .i64 0]), (w.heap.size + 1, [.int .i64 0, .int .i64 0, .int .i64 0]), (w.heap.size, [.int .i64 A, .int .i64 W, .bool a, .int .i64 L, .int .i64 R, .bool al, .bool ar, .int .i64 E, .int .i64 Lo, .int .i64 Hi, .bool bd])]) := Lib.hid (by rw [← hw0]; exact (((Tab.nil w).new' _ _ rfl).new' _ _ (by simp)).new' _ _ (by simp))
  clear hw0
  refine (slc_try w.heap.size (w.heap.size + 2) A W L R E Lo Hi a al ar bd _ ((Tab.nil _).cons (KT.out 2 _ _ rfl)) ((Tab.nil _).cons (KT.out 0 _ _ rfl)) O WS.out).mono ?_
  rintro e w1 ⟨rfl, hbut, hv⟩
  have K1 : Hid (Below w.heap.size w w1) := Lib.hid (But.below KB.out hbut KB.out.size (fun i hi => by simp at hi; omega))
  have T1 : Hid (Tab w1 [(w.heap.size + 1, [.int .i64 0, .int .i64 0, .int .i64 0])]) := Lib.hid (tab_but15 ((Tab.nil _).cons (KT.out 1 _ _ rfl)) hbut (fun k b vs hk => by
    match k, hk with
    | 0, hk => simp at hk; obtain ⟨rfl, _⟩ := hk; simp
    | k + 1, hk => simp at hk))
  obtain ⟨e0, _⟩ := hv (⟨w.heap.size + 2, 0, none⟩, .int .i64 (slV O).1) (by simp [out3])
  obtain ⟨e1, _⟩ := hv (⟨w.heap.size + 2, 1, none⟩, .int .i64 (slV O).2.1) (by simp [out3])
  obtain ⟨e2, _⟩ := hv (⟨w.heap.size + 2, 2, none⟩, .int .i64 (slV O).2.2) (by simp [out3])
  clear hbut hv KB KT WS
  dsimp only at e0 e1 e2
  rw [H0.out] at e0
  rw [H1.out] at e1
  rw [H2.out] at e2
  rw [H3.out]
  have d0 := T1.out.cell 0 0 rfl rfl
  have d1 := T1.out.cell 0 1 rfl rfl
  have d2 := T1.out.cell 0 2 rfl rfl
  have f0 := T1.out.froz 0 0 rfl rfl
  have f1 := T1.out.froz 0 1 rfl rfl
  have f2 := T1.out.froz 0 2 rfl rfl
  have lt := T1.out.lt 0 rfl
  have FIN : Hid (∀ x y z, Below w.heap.size w (((w1.setCell ⟨w.heap.size + 1, 0, none⟩ x).setCell ⟨w.heap.size + 1, 1, none⟩ y).setCell ⟨w.heap.size + 1, 2, none⟩ z)) := Lib.hid (fun x y z => ((K1.out.setCell (by show w.heap.size ≤ w.heap.size + 1; omega) _).setCell (by show w.heap.size ≤ w.heap.size + 1; omega) _).setCell (by show w.heap.size ≤ w.heap.size + 1; omega) _)
  go_wp2_with fail
  refine bodyPost_ret (v := .tuple #[.agg #[.int .i64 y0, .int .i64 y1, .int .i64 y2], .int .i64 er]) (by simp [results, Try.results23, go_sem, d0, d1, d2, lt]) rfl ?_
  exact ⟨rfl, FIN.out _ _ _⟩
end Go.Proofs.Ytmelbgabiklojaa
