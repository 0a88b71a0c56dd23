/- Law 15: WidthRefuses. Made by gen/widh.py. -/
import Derived.Test.YtmelbgabiklojaaWidF
import Derived.Deep.DeepCutAuto
import Derived.Deep.CutBlock
import Derived.WalkKit
import Derived.WalkSpells
import Derived.WalkLawsBesides
import Derived.Handy
import Derived.Lib.Hide
import Derived.Deep.QuietTactic
import Derived.BigQuiet
import Derived.LoopTactic
import Derived.Outline
namespace Go.Proofs.Ytmelbgabiklojaa
open Go.RowKit Go.Proofs.Reg Go.Proofs.Big Wid
set_option linter.unusedVariables false
set_option linter.unusedSimpArgs false
set_option maxRecDepth 100000
def farB (n : Int) : Bool := decide (n < -17592186044416) || decide (17592186044416 < n)
theorem far_ln (n : Int) : farB n = !lnB n := by
  unfold farB lnB
  by_cases h : n < -17592186044416
  · by_cases k : 17592186044416 < n
    · omega
    · simp [h, k]; try omega
  · by_cases k : 17592186044416 < n
    · simp [h, k]; try omega
    · simp [h, k]; try omega
theorem far_any (n : Int) (w : World) : Calls Try.prog 25 #[.int .i64 n] w fun e w' => e = .returned (.bool (farB n)) ∧ w' = w := by
  by_cases h : n < -17592186044416
  · have q : farB n = true := by simp [farB, h]
    rw [q]
    go_enter Try.func25, Try.ntmps25
    go_wp2_with fail
    go_returns
    exact ⟨rfl, rfl⟩
  · by_cases k : 17592186044416 < n
    · have q : farB n = true := by simp [farB, k]
      rw [q]
      go_enter Try.func25, Try.ntmps25
      go_wp2_with fail
      go_returns
      exact ⟨rfl, rfl⟩
    · have q : farB n = false := by simp [farB, h, k]
      rw [q]
      go_enter Try.func25, Try.ntmps25
      go_wp2_with fail
      go_returns
      exact ⟨rfl, rfl⟩
set_option maxHeartbeats 16000000 in
theorem law_widthrefuses (A W L R E Lo Hi : Int) (a al ar bd : Bool) (hA : In64 A) (hW : In64 W) (hL : In64 L) (hR : In64 R) (hE : In64 E) (hLo : In64 Lo) (hHi : In64 Hi) (w : World) : Calls Try.prog 7 #[.agg #[.int .i64 A, .int .i64 W, .bool a, .int .i64 L, .int .i64 R, .bool al, .bool ar, .int .i64 E, .int .i64 Lo, .int .i64 Hi, .bool bd]] w fun e w' => e = .returned (.bool true) ∧ Below w.heap.size w w' := by
  have SP := Lib.hid speaks15_any
  have CU := Lib.hid (cut15_any A W L R E Lo Hi a al ar bd hA hW hL hR hE hLo hHi)
  obtain ⟨CA, qA⟩ : ∃ x, A.tmod 1099511627776 = x := ⟨_, rfl⟩
  have cA : Cu CA := by rw [← qA]; exact cu_of A
  rw [qA] at CU
  obtain ⟨CW, qW⟩ : ∃ x, W.tmod 1099511627776 = x := ⟨_, rfl⟩
  have cW : Cu CW := by rw [← qW]; exact cu_of W
  rw [qW] at CU
  obtain ⟨CL, qL⟩ : ∃ x, L.tmod 1099511627776 = x := ⟨_, rfl⟩
  have cL : Cu CL := by rw [← qL]; exact cu_of L
  rw [qL] at CU
  obtain ⟨CR, qR⟩ : ∃ x, R.tmod 1099511627776 = x := ⟨_, rfl⟩
  have cR : Cu CR := by rw [← qR]; exact cu_of R
  rw [qR] at CU
  obtain ⟨CE, qE⟩ : ∃ x, E.tmod 1099511627776 = x := ⟨_, rfl⟩
  have cE : Cu CE := by rw [← qE]; exact cu_of E
  rw [qE] at CU
  obtain ⟨CLo, qLo⟩ : ∃ x, Lo.tmod 1099511627776 = x := ⟨_, rfl⟩
  have cLo : Cu CLo := by rw [← qLo]; exact cu_of Lo
  rw [qLo] at CU
  obtain ⟨CHi, qHi⟩ : ∃ x, Hi.tmod 1099511627776 = x := ⟨_, rfl⟩
  have cHi : Cu CHi := by rw [← qHi]; exact cu_of Hi
  rw [qHi] at CU
  have S1 := Lib.hid (solved15_any A W L R E Lo Hi a al ar bd)
  obtain ⟨O1, hO1⟩ : ∃ O, solveE A W L R E Lo Hi a al ar bd = O := ⟨_, rfl⟩
  rw [hO1] at S1
  have FAR : Hid ((farB A || (!a && farB W) || (!al && farB L)) = true → slE O1 = 2) := Lib.hid (fun h => by
    rw [← hO1, solve_far]
    · rfl
    · rw [far_ln, far_ln, far_ln] at h
      simp only [Bool.or_eq_true, Bool.and_eq_true, Bool.not_eq_true'] at h
      rcases h with (h | h) | h
      · exact .inl h
      · exact .inr (.inl h)
      · exact .inr (.inr h))
  have ER : Hid (slE O1 = 0 ∨ slE O1 = 2) := Lib.hid (by cases O1; exact .inr rfl; exact .inl rfl)
  obtain ⟨x0, hx0⟩ : ∃ x, (slV O1).1 = x := ⟨_, rfl⟩
  obtain ⟨x1, hx1⟩ : ∃ x, (slV O1).2.1 = x := ⟨_, rfl⟩
  obtain ⟨x2, hx2⟩ : ∃ x, (slV O1).2.2 = x := ⟨_, rfl⟩
  obtain ⟨er, her⟩ : ∃ x, slE O1 = x := ⟨_, rfl⟩
  rw [hx0, hx1, hx2, her] at S1
  rw [her] at FAR ER
  have SZ := Lib.hid (solve_cut (a := a) (al := al) (ar := ar) (bd := bd) cA cW cL cR cE cLo cHi)
  obtain ⟨⟨y0, y1, y2⟩, hy⟩ : ∃ y, solveT CA CW CL CR CE CLo CHi a al ar bd = y := ⟨_, rfl⟩
  rw [hy] at SZ
  have S3 := Lib.hid (solved15_any CA CW CL CR CE CLo CHi a al ar bd)
  rw [SZ.out] at S3
  simp only [slV, slE] at S3
  have S2 : Hid (∀ W6 L6 R6 : Int, (a = false → W6 = CW) → (al = false → L6 = CL) → (ar = false → R6 = CR) → ∀ w, Calls Try.prog 23 #[.agg #[.int .i64 CA, .int .i64 W6, .bool a, .int .i64 L6, .int .i64 R6, .bool al, .bool ar, .int .i64 CE, .int .i64 CLo, .int .i64 CHi, .bool bd]] w fun e w' => e = .returned (.tuple #[.agg #[.int .i64 y0, .int .i64 y1, .int .i64 y2], .int .i64 0]) ∧ Below w.heap.size w w') := Lib.hid (fun W6 L6 R6 h1 h2 h3 w => by
    have := solved15_any CA W6 L6 R6 CE CLo CHi a al ar bd w
    rw [solve_same CA W6 CW L6 CL R6 CR CE CLo CHi a al ar bd h1 h2 h3, SZ.out] at this
    exact this)
  have FN := Lib.hid far_any
  have CX := CU
  have EQ := Lib.hid (arr3_eql y0 y1 y2)
  clear hA hW hL hR hE hLo hHi cA cW cL cR cE cLo cHi qA qW qL qR qE qLo qHi hy hx0 hx1 hx2 her hO1 SZ
  go_enter Try.func7, Try.ntmps7
  go_wp2_with fail
  have KB : Hid (Below w.heap.size w (w.alloc (.cells #[.int .i64 A, .int .i64 W, .bool a, .int .i64 L, .int .i64 R, .bool al, .bool ar, .int .i64 E, .int .i64 Lo, .int .i64 Hi, .bool bd] 41))) := Lib.hid (bel_newR _ _)
  have KT : Hid (Tab (w.alloc (.cells #[.int .i64 A, .int .i64 W, .bool a, .int .i64 L, .int .i64 R, .bool al, .bool ar, .int .i64 E, .int .i64 Lo, .int .i64 Hi, .bool bd] 41)) [(w.heap.size, [.int .i64 A, .int .i64 W, .bool a, .int .i64 L, .int .i64 R, .bool al, .bool ar, .int .i64 E, .int .i64 Lo, .int .i64 Hi, .bool bd])]) := Lib.hid ((Tab.nil w).new' _ _ rfl)
  refine (SP.out _).mono ?_
  rintro e w1 ⟨rfl, hb⟩
  have KB := Lib.hid (bel_tr0 KB.out hb)
  have KT := Lib.hid (KT.out.later hb)
  clear hb
  have c0 := KT.out.cell 0 0 rfl rfl
  have c1 := KT.out.cell 0 1 rfl rfl
  have c2 := KT.out.cell 0 2 rfl rfl
  have c3 := KT.out.cell 0 3 rfl rfl
  have c4 := KT.out.cell 0 4 rfl rfl
  have c5 := KT.out.cell 0 5 rfl rfl
  have c6 := KT.out.cell 0 6 rfl rfl
  have c7 := KT.out.cell 0 7 rfl rfl
  have c8 := KT.out.cell 0 8 rfl rfl
  have c9 := KT.out.cell 0 9 rfl rfl
  have c10 := KT.out.cell 0 10 rfl rfl
  go_wp2_with fail
  refine (S1.out _).mono ?_
  rintro e w2 ⟨rfl, hb⟩
  have KB := Lib.hid (bel_tr0 KB.out hb)
  have KT := Lib.hid (KT.out.later hb)
  clear hb c0 c1 c2 c3 c4 c5 c6 c7 c8 c9 c10
  have KB1x := Lib.hid (KT.out.lt 0 rfl)
  obtain ⟨b3, hb3⟩ : ∃ b, w2.heap.size = b := ⟨_, rfl⟩
  obtain ⟨w3, hw3⟩ : ∃ x, w2.alloc (.cells #[.int .i64 x0, .int .i64 x1, .int .i64 x2] 43) = x := ⟨_, rfl⟩
  have KT : Hid (Tab w3 [(b3, [.int .i64 x0, .int .i64 x1, .int .i64 x2]), (w.heap.size, [.int .i64 A, .int .i64 W, .bool a, .int .i64 L, .int .i64 R, .bool al, .bool ar, .int .i64 E, .int .i64 Lo, .int .i64 Hi, .bool bd])]) := Lib.hid (by rw [← hw3]; exact KT.out.new' _ _ hb3.symm)
  have KB : Hid (Below w.heap.size w w3) := Lib.hid (by rw [← hw3]; exact bel_tr0 KB.out (bel_newR _ _))
  have ND0 : Hid (b3 ≠ w.heap.size) := Lib.hid (by rw [← hb3]; have := KB1x.out; omega)
  go_upto_region 5 with fail
  clear hw3 hb3 S1 SP
  have KB9 := KB
  have KT9 := KT
  clear KB KT
  obtain ⟨F, hF⟩ : ∃ F, (farB A || (!a && farB W) || (!al && farB L)) = F := ⟨_, rfl⟩
  have HF := Lib.hid hF
  rw [hF] at FAR
  clear hF
  obtain ⟨fA, hfA⟩ : ∃ f, farB A = f := ⟨_, rfl⟩
  obtain ⟨fW, hfW⟩ : ∃ f, farB W = f := ⟨_, rfl⟩
  obtain ⟨fL, hfL⟩ : ∃ f, farB L = f := ⟨_, rfl⟩
  rw [hfA, hfW, hfL] at HF
  have NA := Lib.hid (fun w => far_any A w)
  rw [hfA] at NA
  have NW := Lib.hid (fun w => far_any W w)
  rw [hfW] at NW
  have NL := Lib.hid (fun w => far_any L w)
  rw [hfL] at NL
  clear hfA hfW hfL FN
  go_cut [43] (fun s43 wx => s43 = .bool F ∧ wx = w3)
  case first =>
    have c0 := KT9.out.cell 1 0 rfl rfl
    have c1 := KT9.out.cell 1 1 rfl rfl
    have c2 := KT9.out.cell 1 2 rfl rfl
    have c3 := KT9.out.cell 1 3 rfl rfl
    have c4 := KT9.out.cell 1 4 rfl rfl
    have c5 := KT9.out.cell 1 5 rfl rfl
    have c6 := KT9.out.cell 1 6 rfl rfl
    have c7 := KT9.out.cell 1 7 rfl rfl
    have c8 := KT9.out.cell 1 8 rfl rfl
    have c9 := KT9.out.cell 1 9 rfl rfl
    have c10 := KT9.out.cell 1 10 rfl rfl
    go_wp2_with fail
    refine (NA.out _).mono ?_
    rintro _ w9 ⟨rfl, hw⟩
    obtain rfl := hw.symm
    clear hw
    cases fA
    · cases a
      · go_wp2_with fail
        refine (NW.out _).mono ?_
        rintro _ w9 ⟨rfl, hw⟩
        obtain rfl := hw.symm
        clear hw
        cases fW
        · cases al
          · go_wp2_with fail
            refine (NL.out _).mono ?_
            rintro _ w9 ⟨rfl, hw⟩
            obtain rfl := hw.symm
            clear hw
            cases fL
            · go_wp2_with fail
              go_meet
              exact ⟨by rw [← HF.out]; rfl, rfl⟩
            · go_wp2_with fail
              go_meet
              exact ⟨by rw [← HF.out]; rfl, rfl⟩
          · go_wp2_with fail
            go_meet
            exact ⟨by rw [← HF.out]; rfl, rfl⟩
        · go_wp2_with fail
          go_meet
          exact ⟨by rw [← HF.out]; rfl, rfl⟩
      · cases al
        · go_wp2_with fail
          refine (NL.out _).mono ?_
          rintro _ w9 ⟨rfl, hw⟩
          obtain rfl := hw.symm
          clear hw
          cases fL
          · go_wp2_with fail
            go_meet
            exact ⟨by rw [← HF.out]; rfl, rfl⟩
          · go_wp2_with fail
            go_meet
            exact ⟨by rw [← HF.out]; rfl, rfl⟩
        · go_wp2_with fail
          go_meet
          exact ⟨by rw [← HF.out]; rfl, rfl⟩
    · go_wp2_with fail
      go_meet
      exact ⟨by rw [← HF.out]; rfl, rfl⟩
  case rest =>
    obtain ⟨rfl, hwx⟩ := hcut
    obtain rfl := hwx.symm
    clear NA NW NL HF
    cases F
    case true =>
      have e2 := FAR.out rfl
      subst e2
      clear FAR ER S2 S3
      go_wp2_with fail
      go_returns
      exact ⟨rfl, KB9.out⟩
    case false =>
      clear FAR
      have c0 := KT9.out.cell 1 0 rfl rfl
      have c1 := KT9.out.cell 1 1 rfl rfl
      have c2 := KT9.out.cell 1 2 rfl rfl
      have c3 := KT9.out.cell 1 3 rfl rfl
      have c4 := KT9.out.cell 1 4 rfl rfl
      have c5 := KT9.out.cell 1 5 rfl rfl
      have c6 := KT9.out.cell 1 6 rfl rfl
      have c7 := KT9.out.cell 1 7 rfl rfl
      have c8 := KT9.out.cell 1 8 rfl rfl
      have c9 := KT9.out.cell 1 9 rfl rfl
      have c10 := KT9.out.cell 1 10 rfl rfl
      go_wp2_with fail
      refine (CU.out _).mono ?_
      rintro e w4 ⟨rfl, hb⟩
      have KB4 := Lib.hid (bel_tr0 KB9.out hb)
      have KT4 := Lib.hid (KT9.out.later hb)
      clear hb KT9 KB9 CU c0 c1 c2 c3 c4 c5 c6 c7 c8 c9 c10
      obtain ⟨b6, hb6⟩ : ∃ b, w4.heap.size = b := ⟨_, rfl⟩
      obtain ⟨w5, hw5⟩ : ∃ x, w4.alloc (.cells #[.int .i64 CA, .int .i64 CW, .bool a, .int .i64 CL, .int .i64 CR, .bool al, .bool ar, .int .i64 CE, .int .i64 CLo, .int .i64 CHi, .bool bd] 41) = x := ⟨_, rfl⟩
      have KT5 : Hid (Tab w5 [(b6, [.int .i64 CA, .int .i64 CW, .bool a, .int .i64 CL, .int .i64 CR, .bool al, .bool ar, .int .i64 CE, .int .i64 CLo, .int .i64 CHi, .bool bd]), (b3, [.int .i64 x0, .int .i64 x1, .int .i64 x2]), (w.heap.size, [.int .i64 A, .int .i64 W, .bool a, .int .i64 L, .int .i64 R, .bool al, .bool ar, .int .i64 E, .int .i64 Lo, .int .i64 Hi, .bool bd])]) := Lib.hid (by rw [← hw5]; exact KT4.out.new' _ _ hb6.symm)
      have KB5 : Hid (Below w.heap.size w w5) := Lib.hid (by rw [← hw5]; exact bel_tr0 KB4.out (bel_newR _ _))
      have LB : Hid (w.heap.size ≤ b6) := Lib.hid (by rw [← hb6]; exact KB4.out.size)
      have ND : Hid ((([b6, b3, w.heap.size] : List Nat)).Nodup) := Lib.hid (by
        have l1 := KT4.out.lt 0 rfl
        have l2 := KT4.out.lt 1 rfl
        have l3 := ND0.out
        simp; omega)
      go_upto_region 8 with fail
      clear hw5 hb6 KT4 KB4
      have c2 := KT5.out.cell 0 2 rfl rfl
      go_upto_if 49 with fail
      clear c2
      go_cut [] (fun wx => ∃ (wq : World) (W6 : Int), wq = wx ∧ Hid (a = false → W6 = CW) ∧ Hid (Tab wq [(b6, [.int .i64 CA, .int .i64 W6, .bool a, .int .i64 CL, .int .i64 CR, .bool al, .bool ar, .int .i64 CE, .int .i64 CLo, .int .i64 CHi, .bool bd]), (b3, [.int .i64 x0, .int .i64 x1, .int .i64 x2]), (w.heap.size, [.int .i64 A, .int .i64 W, .bool a, .int .i64 L, .int .i64 R, .bool al, .bool ar, .int .i64 E, .int .i64 Lo, .int .i64 Hi, .bool bd])]) ∧ Hid (Below w.heap.size w wq))
      case first =>
        have c0 := KT5.out.cell 2 1 rfl rfl
        have g0 := KT5.out.cell 0 1 rfl rfl
        have gf0 := KT5.out.froz 0 1 rfl rfl
        rcases Bool.eq_false_or_eq_true a with rfl | rfl
        · have hbq := trivial
          go_wp2_with fail
          go_meet
          exact ⟨_, W, rfl, Lib.hid (fun h => by cases h), Lib.hid (KT5.out.set1 0 1 (.int .i64 W) rfl ND.out), Lib.hid (KB5.out.setCell LB.out _)⟩
        · have hbq := trivial
          go_wp2_with fail
          go_meet
          exact ⟨_, CW, rfl, Lib.hid (fun _ => rfl), KT5, KB5⟩
      case rest =>
        obtain ⟨v1, W6, rfl, HW6, KT61, KB61⟩ := hcut
        clear KT5 KB5
        have c5 := KT61.out.cell 0 5 rfl rfl
        go_upto_if 54 with fail
        clear c5
        go_cut [] (fun wx => ∃ (wq : World) (L6 : Int), wq = wx ∧ Hid (al = false → L6 = CL) ∧ Hid (Tab wq [(b6, [.int .i64 CA, .int .i64 W6, .bool a, .int .i64 L6, .int .i64 CR, .bool al, .bool ar, .int .i64 CE, .int .i64 CLo, .int .i64 CHi, .bool bd]), (b3, [.int .i64 x0, .int .i64 x1, .int .i64 x2]), (w.heap.size, [.int .i64 A, .int .i64 W, .bool a, .int .i64 L, .int .i64 R, .bool al, .bool ar, .int .i64 E, .int .i64 Lo, .int .i64 Hi, .bool bd])]) ∧ Hid (Below w.heap.size w wq))
        case first =>
          have c0 := KT61.out.cell 2 3 rfl rfl
          have g0 := KT61.out.cell 0 3 rfl rfl
          have gf0 := KT61.out.froz 0 3 rfl rfl
          rcases Bool.eq_false_or_eq_true al with rfl | rfl
          · have hbq := trivial
            go_wp2_with fail
            go_meet
            exact ⟨_, L, rfl, Lib.hid (fun h => by cases h), Lib.hid (KT61.out.set1 0 3 (.int .i64 L) rfl ND.out), Lib.hid (KB61.out.setCell LB.out _)⟩
          · have hbq := trivial
            go_wp2_with fail
            go_meet
            exact ⟨_, CL, rfl, Lib.hid (fun _ => rfl), KT61, KB61⟩
        case rest =>
          obtain ⟨v2, L6, rfl, HL6, KT62, KB62⟩ := hcut
          clear KT61 KB61
          have c6 := KT62.out.cell 0 6 rfl rfl
          go_upto_if 59 with fail
          clear c6
          go_cut [] (fun wx => ∃ (wq : World) (R6 : Int), wq = wx ∧ Hid (ar = false → R6 = CR) ∧ Hid (Tab wq [(b6, [.int .i64 CA, .int .i64 W6, .bool a, .int .i64 L6, .int .i64 R6, .bool al, .bool ar, .int .i64 CE, .int .i64 CLo, .int .i64 CHi, .bool bd]), (b3, [.int .i64 x0, .int .i64 x1, .int .i64 x2]), (w.heap.size, [.int .i64 A, .int .i64 W, .bool a, .int .i64 L, .int .i64 R, .bool al, .bool ar, .int .i64 E, .int .i64 Lo, .int .i64 Hi, .bool bd])]) ∧ Hid (Below w.heap.size w wq))
          case first =>
            have c0 := KT62.out.cell 2 4 rfl rfl
            have g0 := KT62.out.cell 0 4 rfl rfl
            have gf0 := KT62.out.froz 0 4 rfl rfl
            rcases Bool.eq_false_or_eq_true ar with rfl | rfl
            · have hbq := trivial
              go_wp2_with fail
              go_meet
              exact ⟨_, R, rfl, Lib.hid (fun h => by cases h), Lib.hid (KT62.out.set1 0 4 (.int .i64 R) rfl ND.out), Lib.hid (KB62.out.setCell LB.out _)⟩
            · have hbq := trivial
              go_wp2_with fail
              go_meet
              exact ⟨_, CR, rfl, Lib.hid (fun _ => rfl), KT62, KB62⟩
          case rest =>
            obtain ⟨v3, R6, rfl, HR6, KT63, KB63⟩ := hcut
            clear KT62 KB62
            have c0 := KT63.out.cell 0 0 rfl rfl
            have c1 := KT63.out.cell 0 1 rfl rfl
            have c2 := KT63.out.cell 0 2 rfl rfl
            have c3 := KT63.out.cell 0 3 rfl rfl
            have c4 := KT63.out.cell 0 4 rfl rfl
            have c5 := KT63.out.cell 0 5 rfl rfl
            have c6 := KT63.out.cell 0 6 rfl rfl
            have c7 := KT63.out.cell 0 7 rfl rfl
            have c8 := KT63.out.cell 0 8 rfl rfl
            have c9 := KT63.out.cell 0 9 rfl rfl
            have c10 := KT63.out.cell 0 10 rfl rfl
            go_wp2_with fail
            refine (S2.out W6 L6 R6 HW6.out HL6.out HR6.out _).mono ?_
            rintro e u2 ⟨rfl, hb⟩
            have KB7 := Lib.hid (bel_tr0 KB63.out hb)
            have KT7 := Lib.hid (KT63.out.later hb)
            clear hb KT63 KB63 S2 c0 c1 c2 c3 c4 c5 c6 c7 c8 c9 c10
            obtain ⟨b7, hb7⟩ : ∃ b, u2.heap.size = b := ⟨_, rfl⟩
            obtain ⟨u3, hu3⟩ : ∃ x, u2.alloc (.cells #[.int .i64 y0, .int .i64 y1, .int .i64 y2] 43) = x := ⟨_, rfl⟩
            have KT8 : Hid (Tab u3 [(b7, [.int .i64 y0, .int .i64 y1, .int .i64 y2]), (b6, [.int .i64 CA, .int .i64 W6, .bool a, .int .i64 L6, .int .i64 R6, .bool al, .bool ar, .int .i64 CE, .int .i64 CLo, .int .i64 CHi, .bool bd]), (b3, [.int .i64 x0, .int .i64 x1, .int .i64 x2]), (w.heap.size, [.int .i64 A, .int .i64 W, .bool a, .int .i64 L, .int .i64 R, .bool al, .bool ar, .int .i64 E, .int .i64 Lo, .int .i64 Hi, .bool bd])]) := Lib.hid (by rw [← hu3]; exact KT7.out.new' _ _ hb7.symm)
            have KB8 : Hid (Below w.heap.size w u3) := Lib.hid (by rw [← hu3]; exact bel_tr0 KB7.out (bel_newR _ _))
            go_upto_region 15 with fail
            clear hu3 hb7 KT7 KB7
            have c0 := KT8.out.cell 3 0 rfl rfl
            have c1 := KT8.out.cell 3 1 rfl rfl
            have c2 := KT8.out.cell 3 2 rfl rfl
            have c3 := KT8.out.cell 3 3 rfl rfl
            have c4 := KT8.out.cell 3 4 rfl rfl
            have c5 := KT8.out.cell 3 5 rfl rfl
            have c6 := KT8.out.cell 3 6 rfl rfl
            have c7 := KT8.out.cell 3 7 rfl rfl
            have c8 := KT8.out.cell 3 8 rfl rfl
            have c9 := KT8.out.cell 3 9 rfl rfl
            have c10 := KT8.out.cell 3 10 rfl rfl
            go_wp2_with fail
            refine (CX.out _).mono ?_
            rintro e u4 ⟨rfl, hb⟩
            have KB9 := Lib.hid (bel_tr0 KB8.out hb)
            have KT9 := Lib.hid (KT8.out.later hb)
            clear hb KT8 KB8 CX c0 c1 c2 c3 c4 c5 c6 c7 c8 c9 c10
            go_wp2_with fail
            refine (S3.out _).mono ?_
            rintro e u5 ⟨rfl, hb⟩
            have KB10 := Lib.hid (bel_tr0 KB9.out hb)
            have KT10 := Lib.hid (KT9.out.later hb)
            clear hb KT9 KB9 S3
            obtain ⟨b9, hb9⟩ : ∃ b, u5.heap.size = b := ⟨_, rfl⟩
            obtain ⟨u6, hu6⟩ : ∃ x, u5.alloc (.cells #[.int .i64 y0, .int .i64 y1, .int .i64 y2] 43) = x := ⟨_, rfl⟩
            have KT11 : Hid (Tab u6 [(b9, [.int .i64 y0, .int .i64 y1, .int .i64 y2]), (b7, [.int .i64 y0, .int .i64 y1, .int .i64 y2]), (b6, [.int .i64 CA, .int .i64 W6, .bool a, .int .i64 L6, .int .i64 R6, .bool al, .bool ar, .int .i64 CE, .int .i64 CLo, .int .i64 CHi, .bool bd]), (b3, [.int .i64 x0, .int .i64 x1, .int .i64 x2]), (w.heap.size, [.int .i64 A, .int .i64 W, .bool a, .int .i64 L, .int .i64 R, .bool al, .bool ar, .int .i64 E, .int .i64 Lo, .int .i64 Hi, .bool bd])]) := Lib.hid (by rw [← hu6]; exact KT10.out.new' _ _ hb9.symm)
            have KB11 : Hid (Below w.heap.size w u6) := Lib.hid (by rw [← hu6]; exact bel_tr0 KB10.out (bel_newR _ _))
            go_upto_region 16 with fail
            clear hu6 hb9 KT10 KB10
            have c0 := KT11.out.cell 0 0 rfl rfl
            have c1 := KT11.out.cell 0 1 rfl rfl
            have c2 := KT11.out.cell 0 2 rfl rfl
            have g0 := KT11.out.cell 1 0 rfl rfl
            have g1 := KT11.out.cell 1 1 rfl rfl
            have g2 := KT11.out.cell 1 2 rfl rfl
            have EQ2 := EQ.out
            rcases ER.out with h | h
            · subst h
              go_wp2_with fail
              go_returns
              exact ⟨rfl, KB11.out⟩
            · subst h
              go_wp2_with fail
              go_returns
              exact ⟨rfl, KB11.out⟩
end Go.Proofs.Ytmelbgabiklojaa
