/- Package width: Solve. Made by gen/widc.py. -/
import Derived.Test.YtmelbgabiklojaaWidB
import Derived.WalkKit
import Derived.WalkSpells
import Derived.WalkLawsBesides
import Derived.Handy
import Derived.Lib.Hide
import Derived.Deep.QuietTactic
import Derived.BigQuiet
import Derived.LoopTactic
import Derived.Outline
namespace Go.Proofs.Ytmelbgabiklojaa
open Go.RowKit Go.Proofs.Reg Go.Proofs.Big Wid
set_option linter.unusedVariables false
set_option linter.unusedSimpArgs false
set_option maxRecDepth 100000
theorem wwith_any (A W L R E Lo Hi : Int) (a al ar bd : Bool) (n : Int) (w : World) : Calls Try.prog 60 #[.agg #[.int .i64 A, .int .i64 W, .bool a, .int .i64 L, .int .i64 R, .bool al, .bool ar, .int .i64 E, .int .i64 Lo, .int .i64 Hi, .bool bd], .int .i64 n] w fun e w' => e = .returned (.agg #[.int .i64 A, .int .i64 n, .bool false, .int .i64 L, .int .i64 R, .bool al, .bool ar, .int .i64 E, .int .i64 Lo, .int .i64 Hi, .bool bd]) ∧ Below w.heap.size w w' := by
  go_enter Try.func60, Try.ntmps60
  go_wp2_with fail
  go_returns
  exact ⟨rfl, by go_grown⟩
set_option maxHeartbeats 16000000 in
theorem wsolve_any (A W L R E Lo Hi : Int) (a al ar bd : Bool) (w : World) : Calls Try.prog 43 #[.agg #[.int .i64 A, .int .i64 W, .bool a, .int .i64 L, .int .i64 R, .bool al, .bool ar, .int .i64 E, .int .i64 Lo, .int .i64 Hi, .bool bd]] w fun e w' => OcR (solveE A W L R E Lo Hi a al ar bd) e ∧ Below w.heap.size w w' := by
  have WS := Lib.hid (fun W a => wsolved_any A W L R E Lo Hi a al ar bd)
  have WI := Lib.hid (wwith_any A W L R E Lo Hi a al ar bd)
  obtain ⟨O, hO⟩ : ∃ O, solveE A W L R E Lo Hi a al ar bd = O := ⟨_, rfl⟩
  have HO : Hid (O = solveE A W L R E Lo Hi a al ar bd) := Lib.hid hO.symm
  rw [hO]
  clear hO
  unfold solveE at HO
  go_enter Try.func43, Try.ntmps43
  go_wp2_with fail
  have KB : Hid (Below w.heap.size w ((w.alloc (.cells #[.int .i64 A, .int .i64 W, .bool a, .int .i64 L, .int .i64 R, .bool al, .bool ar, .int .i64 E, .int .i64 Lo, .int .i64 Hi, .bool bd] 78)).alloc (.cells #[.int .i64 0, .int .i64 0, .int .i64 0] 73))) := Lib.hid (bel_tr0 (bel_newR _ _) (bel_newR _ _))
  have KT : Hid (Tab ((w.alloc (.cells #[.int .i64 A, .int .i64 W, .bool a, .int .i64 L, .int .i64 R, .bool al, .bool ar, .int .i64 E, .int .i64 Lo, .int .i64 Hi, .bool bd] 78)).alloc (.cells #[.int .i64 0, .int .i64 0, .int .i64 0] 73)) [(w.heap.size + 1, [.int .i64 0, .int .i64 0, .int .i64 0]), (w.heap.size, [.int .i64 A, .int .i64 W, .bool a, .int .i64 L, .int .i64 R, .bool al, .bool ar, .int .i64 E, .int .i64 Lo, .int .i64 Hi, .bool bd])]) := Lib.hid (((Tab.nil w).new' _ _ rfl).new' _ _ (by simp))
  refine (WS.out W a _).mono ?_
  rintro e w1 ⟨he, hb⟩
  have KB := Lib.hid (bel_tr0 KB.out hb)
  have KT := Lib.hid (KT.out.later hb)
  clear hb
  obtain ⟨o1, ho1⟩ : ∃ o, onceE A W L R E a al ar = o := ⟨_, rfl⟩
  rw [ho1] at he HO
  cases o1 with
  | none =>
    obtain rfl : e = .panicked (gave 2) := he
    exact ⟨rfl, by rw [HO.out]; rfl, KB.out⟩
  | some y =>
    obtain ⟨x0, x1, x2⟩ := y
    obtain rfl : e = .returned (.agg #[.int .i64 x0, .int .i64 x1, .int .i64 x2]) := he
    simp only [Option.bind_some] at HO
    obtain ⟨b3, hb3⟩ : ∃ b, w1.heap.size = b := ⟨_, rfl⟩
    have LB : Hid (w.heap.size ≤ b3) := Lib.hid (by rw [← hb3]; exact KB.out.size)
    have lt1 : w.heap.size + 1 < b3 := by rw [← hb3]; exact KT.out.lt 0 rfl
    have ND : Hid ((([b3, w.heap.size + 1, w.heap.size] : List Nat)).Nodup) := Lib.hid (by simp; omega)
    obtain ⟨w2, hw2⟩ : ∃ x, w1.alloc (.cells #[.int .i64 x0, .int .i64 x1, .int .i64 x2] 73) = x := ⟨_, rfl⟩
    have KT2 : Hid (Tab w2 [(b3, [.int .i64 x0, .int .i64 x1, .int .i64 x2]), (w.heap.size + 1, [.int .i64 0, .int .i64 0, .int .i64 0]), (w.heap.size, [.int .i64 A, .int .i64 W, .bool a, .int .i64 L, .int .i64 R, .bool al, .bool ar, .int .i64 E, .int .i64 Lo, .int .i64 Hi, .bool bd])]) := Lib.hid (by rw [← hw2]; exact KT.out.new' _ _ hb3.symm)
    have KB2 : Hid (Below w.heap.size w w2) := Lib.hid (by rw [← hw2]; exact bel_tr0 KB.out (bel_newR _ _))
    go_upto_region 2 with fail
    clear KT KB hw2 hb3 lt1 ho1
    obtain ⟨c, hc⟩ : ∃ c : Bool, c = (bd && decide (Hi < x0)) := ⟨_, rfl⟩
    have HC := Lib.hid hc
    have HO : Hid (O = (if c = true then onceE A Hi L R E false al ar else some (x0, x1, x2)).bind fun o2 => if o2.1 < Lo then onceE A Lo L R E false al ar else some o2) := Lib.hid (by
      rw [HO.out, hc]
      congr 1
      by_cases p : bd = true ∧ Hi < x0
      · rw [if_pos p, if_pos (by simp [p.1, p.2])]
      · rw [if_neg p, if_neg (by simpa using p)])
    clear hc
    have g0 := KT2.out.cell 0 0 rfl rfl
    have c9 := KT2.out.cell 2 9 rfl rfl
    have c10 := KT2.out.cell 2 10 rfl rfl
    go_cut [16] (fun s16 wx => s16 = .bool c ∧ wx = w2)
    case first =>
      cases bd
      · obtain rfl : c = false := HC.out
        go_wp2_with fail
        go_meet
        exact ⟨rfl, rfl⟩
      · by_cases q : Hi < x0
        · obtain rfl : c = true := by rw [HC.out]; simp [q]
          go_wp2_with fail
          go_meet
          exact ⟨rfl, rfl⟩
        · obtain rfl : c = false := by rw [HC.out]; simp [q]
          go_wp2_with fail
          go_meet
          exact ⟨rfl, rfl⟩
    case rest =>
      obtain ⟨rfl, rfl⟩ := hcut
      clear g0 c9 c10
      go_upto_if 16 with fail
      go_cut [] (fun wx => ∃ (wq : World) (y0 y1 y2 : Int), wq = wx ∧ Hid (Tab wq [(b3, [.int .i64 y0, .int .i64 y1, .int .i64 y2]), (w.heap.size + 1, [.int .i64 0, .int .i64 0, .int .i64 0]), (w.heap.size, [.int .i64 A, .int .i64 W, .bool a, .int .i64 L, .int .i64 R, .bool al, .bool ar, .int .i64 E, .int .i64 Lo, .int .i64 Hi, .bool bd])]) ∧ Hid (Below w.heap.size w wq) ∧ Hid (O = if y0 < Lo then onceE A Lo L R E false al ar else some (y0, y1, y2)))
      case first =>
        cases c
        · go_wp2_with fail
          go_meet
          exact ⟨_, x0, x1, x2, rfl, KT2, KB2, Lib.hid (by rw [HO.out]; rfl)⟩
        · have HO : Hid (O = (onceE A Hi L R E false al ar).bind fun o2 => if o2.1 < Lo then onceE A Lo L R E false al ar else some o2) := Lib.hid (by rw [HO.out]; rfl)
          have KT := KT2
          have KB := KB2
          have c0 := KT.out.cell 2 0 rfl rfl
          have c1 := KT.out.cell 2 1 rfl rfl
          have c2 := KT.out.cell 2 2 rfl rfl
          have c3 := KT.out.cell 2 3 rfl rfl
          have c4 := KT.out.cell 2 4 rfl rfl
          have c5 := KT.out.cell 2 5 rfl rfl
          have c6 := KT.out.cell 2 6 rfl rfl
          have c7 := KT.out.cell 2 7 rfl rfl
          have c8 := KT.out.cell 2 8 rfl rfl
          have c9 := KT.out.cell 2 9 rfl rfl
          have c10 := KT.out.cell 2 10 rfl rfl
          go_wp2_with fail
          refine (WI.out Hi _).mono ?_
          rintro e w2a ⟨rfl, hb⟩
          have KB := Lib.hid (bel_tr0 KB.out hb)
          have KT := Lib.hid (KT.out.later hb)
          clear hb c0 c1 c2 c3 c4 c5 c6 c7 c8 c9 c10
          go_wp2_with fail
          refine (WS.out Hi false _).mono ?_
          rintro e w2b ⟨he, hb⟩
          have KB := Lib.hid (bel_tr0 KB.out hb)
          have KT := Lib.hid (KT.out.later hb)
          clear hb
          obtain ⟨oy, hoy⟩ : ∃ o, onceE A Hi L R E false al ar = o := ⟨_, rfl⟩
          rw [hoy] at he HO
          rcases oy with _ | ⟨y0, y1, y2⟩
          · obtain rfl : e = .panicked (gave 2) := he
            exact ⟨rfl, by rw [HO.out]; rfl, KB.out⟩
          obtain rfl : e = .returned (.agg #[.int .i64 y0, .int .i64 y1, .int .i64 y2]) := he
          have g0 := KT.out.cell 0 0 rfl rfl
          have gf0 := KT.out.froz 0 0 rfl rfl
          have g1 := KT.out.cell 0 1 rfl rfl
          have gf1 := KT.out.froz 0 1 rfl rfl
          have g2 := KT.out.cell 0 2 rfl rfl
          have gf2 := KT.out.froz 0 2 rfl rfl
          obtain ⟨w2c, hw⟩ : ∃ x, (((w2b.setCell ⟨b3, 0, none⟩ (.int .i64 y0)).setCell ⟨b3, 1, none⟩ (.int .i64 y1)).setCell ⟨b3, 2, none⟩ (.int .i64 y2)) = x := ⟨_, rfl⟩
          have KT : Hid (Tab w2c [(b3, [.int .i64 y0, .int .i64 y1, .int .i64 y2]), (w.heap.size + 1, [.int .i64 0, .int .i64 0, .int .i64 0]), (w.heap.size, [.int .i64 A, .int .i64 W, .bool a, .int .i64 L, .int .i64 R, .bool al, .bool ar, .int .i64 E, .int .i64 Lo, .int .i64 Hi, .bool bd])]) := Lib.hid (by rw [← hw]; exact (((KT.out.set1 0 0 (.int .i64 y0) rfl ND.out).set1 0 1 (.int .i64 y1) rfl ND.out).set1 0 2 (.int .i64 y2) rfl ND.out))
          have KB : Hid (Below w.heap.size w w2c) := Lib.hid (by rw [← hw]; exact ((KB.out.setCell LB.out _).setCell LB.out _).setCell LB.out _)
          go_wp2_with fail
          go_meet
          exact ⟨_, y0, y1, y2, rfl, KT, KB, Lib.hid (by rw [HO.out]; rfl)⟩
      case rest =>
        obtain ⟨wq, y0, y1, y2, rfl, KT, KB, HO⟩ := hcut
        clear KT2 KB2 HC
        have c8 := KT.out.cell 2 8 rfl rfl
        have g0 := KT.out.cell 0 0 rfl rfl
        by_cases q : y0 < Lo
        · have HO : Hid (O = onceE A Lo L R E false al ar) := Lib.hid (by rw [HO.out, if_pos q])
          have c0 := KT.out.cell 2 0 rfl rfl
          have c1 := KT.out.cell 2 1 rfl rfl
          have c2 := KT.out.cell 2 2 rfl rfl
          have c3 := KT.out.cell 2 3 rfl rfl
          have c4 := KT.out.cell 2 4 rfl rfl
          have c5 := KT.out.cell 2 5 rfl rfl
          have c6 := KT.out.cell 2 6 rfl rfl
          have c7 := KT.out.cell 2 7 rfl rfl
          have c8 := KT.out.cell 2 8 rfl rfl
          have c9 := KT.out.cell 2 9 rfl rfl
          have c10 := KT.out.cell 2 10 rfl rfl
          go_wp2_with fail
          refine (WI.out Lo _).mono ?_
          rintro e wqa ⟨rfl, hb⟩
          have KB := Lib.hid (bel_tr0 KB.out hb)
          have KT := Lib.hid (KT.out.later hb)
          clear hb c0 c1 c2 c3 c4 c5 c6 c7 c8 c9 c10
          go_wp2_with fail
          refine (WS.out Lo false _).mono ?_
          rintro e wqb ⟨he, hb⟩
          have KB := Lib.hid (bel_tr0 KB.out hb)
          have KT := Lib.hid (KT.out.later hb)
          clear hb
          obtain ⟨oz, hoz⟩ : ∃ o, onceE A Lo L R E false al ar = o := ⟨_, rfl⟩
          rw [hoz] at he HO
          rcases oz with _ | ⟨z0, z1, z2⟩
          · obtain rfl : e = .panicked (gave 2) := he
            exact ⟨rfl, by rw [HO.out]; rfl, KB.out⟩
          obtain rfl : e = .returned (.agg #[.int .i64 z0, .int .i64 z1, .int .i64 z2]) := he
          have g0 := KT.out.cell 0 0 rfl rfl
          have gf0 := KT.out.froz 0 0 rfl rfl
          have g1 := KT.out.cell 0 1 rfl rfl
          have gf1 := KT.out.froz 0 1 rfl rfl
          have g2 := KT.out.cell 0 2 rfl rfl
          have gf2 := KT.out.froz 0 2 rfl rfl
          obtain ⟨wqc, hw⟩ : ∃ x, (((wqb.setCell ⟨b3, 0, none⟩ (.int .i64 z0)).setCell ⟨b3, 1, none⟩ (.int .i64 z1)).setCell ⟨b3, 2, none⟩ (.int .i64 z2)) = x := ⟨_, rfl⟩
          have KT : Hid (Tab wqc [(b3, [.int .i64 z0, .int .i64 z1, .int .i64 z2]), (w.heap.size + 1, [.int .i64 0, .int .i64 0, .int .i64 0]), (w.heap.size, [.int .i64 A, .int .i64 W, .bool a, .int .i64 L, .int .i64 R, .bool al, .bool ar, .int .i64 E, .int .i64 Lo, .int .i64 Hi, .bool bd])]) := Lib.hid (by rw [← hw]; exact (((KT.out.set1 0 0 (.int .i64 z0) rfl ND.out).set1 0 1 (.int .i64 z1) rfl ND.out).set1 0 2 (.int .i64 z2) rfl ND.out))
          have KB : Hid (Below w.heap.size w wqc) := Lib.hid (by rw [← hw]; exact ((KB.out.setCell LB.out _).setCell LB.out _).setCell LB.out _)
          go_upto_region 6 with fail
          clear hw g0 gf0 g1 gf1 g2 gf2
          have d0 := KT.out.cell 1 0 rfl rfl
          have df0 := KT.out.froz 1 0 rfl rfl
          have d1 := KT.out.cell 1 1 rfl rfl
          have df1 := KT.out.froz 1 1 rfl rfl
          have d2 := KT.out.cell 1 2 rfl rfl
          have df2 := KT.out.froz 1 2 rfl rfl
          have g0 := KT.out.cell 0 0 rfl rfl
          have gf0 := KT.out.froz 0 0 rfl rfl
          have g1 := KT.out.cell 0 1 rfl rfl
          have gf1 := KT.out.froz 0 1 rfl rfl
          have g2 := KT.out.cell 0 2 rfl rfl
          have gf2 := KT.out.froz 0 2 rfl rfl
          have lt := KT.out.lt 1 rfl
          have FIN : Hid (∀ x0 x1 x2, Below w.heap.size w (((wqc.setCell ⟨w.heap.size + 1, 0, none⟩ x0).setCell ⟨w.heap.size + 1, 1, none⟩ x1).setCell ⟨w.heap.size + 1, 2, none⟩ x2)) := Lib.hid (fun x0 x1 x2 => (((KB.out.setCell (by show w.heap.size ≤ w.heap.size + 1; omega) _).setCell (by show w.heap.size ≤ w.heap.size + 1; omega) _).setCell (by show w.heap.size ≤ w.heap.size + 1; omega) _))
          go_wp2_with fail
          refine bodyPost_ret (v := .agg #[.int .i64 z0, .int .i64 z1, .int .i64 z2]) (by simp [results, Try.results43, go_sem, d0, d1, d2, lt]) rfl ?_
          exact ⟨by rw [HO.out]; rfl, FIN.out _ _ _⟩
        · have HO : Hid (O = some (y0, y1, y2)) := Lib.hid (by rw [HO.out, if_neg q])
          have d0 := KT.out.cell 1 0 rfl rfl
          have df0 := KT.out.froz 1 0 rfl rfl
          have d1 := KT.out.cell 1 1 rfl rfl
          have df1 := KT.out.froz 1 1 rfl rfl
          have d2 := KT.out.cell 1 2 rfl rfl
          have df2 := KT.out.froz 1 2 rfl rfl
          have g0 := KT.out.cell 0 0 rfl rfl
          have gf0 := KT.out.froz 0 0 rfl rfl
          have g1 := KT.out.cell 0 1 rfl rfl
          have gf1 := KT.out.froz 0 1 rfl rfl
          have g2 := KT.out.cell 0 2 rfl rfl
          have gf2 := KT.out.froz 0 2 rfl rfl
          have lt := KT.out.lt 1 rfl
          have FIN : Hid (∀ x0 x1 x2, Below w.heap.size w (((wq.setCell ⟨w.heap.size + 1, 0, none⟩ x0).setCell ⟨w.heap.size + 1, 1, none⟩ x1).setCell ⟨w.heap.size + 1, 2, none⟩ x2)) := Lib.hid (fun x0 x1 x2 => (((KB.out.setCell (by show w.heap.size ≤ w.heap.size + 1; omega) _).setCell (by show w.heap.size ≤ w.heap.size + 1; omega) _).setCell (by show w.heap.size ≤ w.heap.size + 1; omega) _))
          go_wp2_with fail
          refine bodyPost_ret (v := .agg #[.int .i64 y0, .int .i64 y1, .int .i64 y2]) (by simp [results, Try.results43, go_sem, d0, d1, d2, lt]) rfl ?_
          exact ⟨by rw [HO.out]; rfl, FIN.out _ _ _⟩
end Go.Proofs.Ytmelbgabiklojaa
