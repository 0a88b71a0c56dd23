/- Package region: the rectangles of a region, in memory. -/
import Derived.Test.YtjemnjboopabpaaGn
import Derived.Test.YtjemnjboopabpaaGj
import Derived.Test.YtjemnjboopabpaaAreaQ
import Derived.Test.YtjemnjboopabpaaRectB
import Derived.Test.YtjemnjboopabpaaRectC
import Derived.WalkKit
import Derived.WalkSpells
import Derived.WalkLawsBesides
import Derived.Handy
import Derived.Lib.Hide
import Derived.LoopTactic
import Derived.Outline
namespace Go.Proofs.Ytjemnjboopabpaa
open Go.RowKit Go.Proofs.Reg Go.Proofs.Big Go.Proofs.Bands
set_option linter.unusedVariables false
set_option linter.unusedSimpArgs false
set_option maxRecDepth 100000
/-- the cells of rectangles -/
def cells4 (rs : List Q4) : List Value := rs.flatMap fun r => [.int .i64 r.1, .int .i64 r.2.1, .int .i64 r.2.2.1, .int .i64 r.2.2.2]
theorem cells4_len (rs : List Q4) : (cells4 rs).length = rs.length * 4 := by
  induction rs with
  | nil => rfl
  | cons r rs ih =>
    unfold cells4 at *
    rw [List.flatMap_cons, List.length_append, ih, List.length_cons]
    simp
    omega
theorem cells4_append (a b : List Q4) : cells4 (a ++ b) = cells4 a ++ cells4 b := by unfold cells4; rw [List.flatMap_append]
theorem cells4_get : ∀ (rs : List Q4) (k : Nat) (r : Q4), rs[k]? = some r → (cells4 rs)[k * 4]? = some (.int .i64 r.1) ∧ (cells4 rs)[k * 4 + 1]? = some (.int .i64 r.2.1) ∧ (cells4 rs)[k * 4 + 2]? = some (.int .i64 r.2.2.1) ∧ (cells4 rs)[k * 4 + 3]? = some (.int .i64 r.2.2.2)
  | [], k, r, h => by simp at h
  | a :: rs, 0, r, h => by
    simp at h
    subst h
    exact ⟨rfl, rfl, rfl, rfl⟩
  | a :: rs, k + 1, r, h => by
    have ih := cells4_get rs k r (by simpa using h)
    have e : cells4 (a :: rs) = .int .i64 a.1 :: .int .i64 a.2.1 :: .int .i64 a.2.2.1 :: .int .i64 a.2.2.2 :: cells4 rs := rfl
    rw [e, show (k + 1) * 4 = k * 4 + 1 + 1 + 1 + 1 by omega]
    exact ih
theorem cells4_one (rs : List Q4) : ∀ u ∈ cells4 rs, u.oneCell' = true := by
  intro u hu
  unfold cells4 at hu
  obtain ⟨r, _, h⟩ := List.mem_flatMap.1 hu
  simp at h
  rcases h with rfl | rfl | rfl | rfl <;> rfl
theorem rcs_runs (t b : Int) (es : List Int) : (List.range (es.length / 2)).flatMap (rcs t b es) = cells4 (runs t b es) := by
  unfold cells4
  rw [runs_range, List.flatMap_map]
  rfl
theorem RS.of_owns {w : World} {base : Nat} {v : Value} {n : Nat} {rs : List Q4} (h : w.ownsRow base 40 4 v n (cells4 rs)) : RS w v rs := by
  have h' := h
  have hl := h.1
  rw [cells4_len] at hl
  have hn : n = rs.length := by omega
  obtain ⟨_, ⟨rfl, h0⟩ | ⟨g, cap, cur, rfl, _, _, hc, hm, _⟩⟩ := h'
  · exact ⟨none, 0, 0, rfl, by omega, by omega, by decide, fun h => by omega⟩
  · refine ⟨_, n, cap, rfl, hn, hc, by unfold maxLen at hm; omega, fun _ => ⟨g, 0, rfl, fun k r hk => ?_⟩⟩
    obtain ⟨c0, c1, c2, c3⟩ := cells4_get rs k r hk
    have lk := (List.getElem?_eq_some_iff.1 hk).1
    rw [Nat.zero_add]
    exact ⟨by rw [h.cellAt _ (by omega), c0], by rw [h.cellAt _ (by omega), c1], by rw [h.cellAt _ (by omega), c2], by rw [h.cellAt _ (by omega), c3]⟩
/-- rows of few edges -/
def Few (l : List Bd) : Prop := ∀ d ∈ l, d.es.length ≤ 1000
theorem rects_len {l : List Bd} (h : Few l) : (rectsB l).length ≤ 500 * l.length := by
  induction l with
  | nil => simp [rectsB]
  | cons c l ih =>
    have := ih fun d m => h d (by simp [m])
    have := h c (by simp)
    unfold rectsB at *
    rw [List.flatMap_cons, List.length_append, bandR, runs_len, List.length_cons]
    omega
theorem rects_take {l : List Bd} {j : Nat} {d : Bd} (h : l[j]? = some d) : rectsB (l.take (j + 1)) = rectsB (l.take j) ++ runs d.t d.b d.es := by
  unfold rectsB
  rw [List.take_add_one, h, Option.toList_some, List.flatMap_append]
  simp [bandR]
def RcsR (w : World) (l : List Bd) (e : Ending) (w' : World) : Prop := ∃ v, e = .returned v ∧ RS w' v (rectsB l) ∧ (∀ k, v.ownBlock = some k → w.heap.size ≤ k) ∧ Below w.heap.size w w'
set_option maxHeartbeats 1000000 in
theorem rects_any (va : Value) (l : List Bd) (w : World) (h : Rg w va l) (few : Few l) : Calls Try.prog 35 #[va] w (RcsR w l) := by
  obtain ⟨⟨v, rfl, hv⟩, wf, ir⟩ := h
  have LB := bands_len wf ir
  have FW := Lib.hid few
  have WF := Lib.hid wf
  obtain ⟨a, n, c, ys, rfl, hbl, hn, nb, nc, hcell⟩ := hv
  have HBL := Lib.hid hbl
  have HCE := Lib.hid hcell
  have HN := Lib.hid hn
  clear hbl hcell hn wf ir few
  obtain ⟨i0, hi, hz0, hz1, hz2⟩ := rect_parts
  go_enter Try.func35, Try.ntmps35
  go_wp2_with fail
  go_loopw [3, 9] (fun s3 s9 wr => ∃ (j n3 : Nat) (pe : Option Addr) (ce : Nat), s3 = .slice pe n3 ce ∧ s9 = .int .i64 j ∧ j ≤ n ∧ Hid (n3 = (rectsB (l.take j)).length) ∧ wr.ownsRow w.heap.size 40 4 (.slice pe n3 ce) n3 (cells4 (rectsB (l.take j))) ∧ w.heap.size ≤ wr.heap.size ∧ Hid (Below w.heap.size w wr)) (fun _ s9 _ => n - (intOf s9).toNat)
  case atStart => exact ⟨0, 0, none, 0, rfl, rfl, by omega, Lib.hid rfl, World.ownsRow_nil _ _ _ _, by simp, Lib.hid (by go_grown)⟩
  case round =>
    obtain ⟨j, n3, pe, ce, rfl, rfl, jn, HL, hown, hsz, KB⟩ := hrel
    by_cases lt : j < n
    · have lt' : (j : Int) < (n : Int) := by omega
      obtain ⟨g, rfl, hcl⟩ := HCE.out (by omega)
      obtain ⟨d, hd⟩ : ∃ d, l[j]? = some d := ⟨_, List.getElem?_eq_getElem (by have := HN.out; omega)⟩
      have ok := wf_ok WF.out d (List.mem_of_getElem? hd)
      have fd := FW.out d (List.mem_of_getElem? hd)
      obtain ⟨ev, x0, x1, x2, he⟩ := HBL.out.get j d hd
      have HE := Lib.hid he
      obtain ⟨ea, en, ec, rfl, _⟩ : ∃ ea en ec, ev = .slice ea en ec ∧ True := by
        obtain ⟨a, n, c, e, _⟩ := he
        exact ⟨a, n, c, e, trivial⟩
      have d0 := cell_later KB.out (hcl _ _ x0)
      have d1 := cell_later KB.out (hcl _ _ x1)
      have d2 := cell_later KB.out (hcl _ _ x2)
      rw [show 3 * j = j * 3 by omega] at d0 d1 d2
      have HT : Hid (rectsB (l.take (j + 1)) = rectsB (l.take j) ++ runs d.t d.b d.es) := Lib.hid (rects_take hd)
      have NT : Hid ((rectsB (l.take (j + 1))).length ≤ 1073741824000) := Lib.hid (by
        have := rects_len (l := l.take (j + 1)) fun d m => FW.out d (List.mem_of_mem_take m)
        have : (l.take (j + 1)).length ≤ l.length := by rw [List.length_take]; omega
        omega)
      have OK := Lib.hid ok
      have FD := Lib.hid fd
      have HO := Lib.hid hown
      clear x0 x1 x2 hcl he hd ok fd hown
      go_wp2_with fail
      refine (grects_any d.t d.b _ d.es _ (HE.out.later (by have := KB.out; go_grown)) OK.out.ev (by have := FD.out; omega) OK.out.ne).mono ?_
      rintro _ w2 ⟨p, c2, rfl, ho, hb⟩
      rw [rcs_runs] at ho
      have rl := runs_len d.t d.b d.es
      obtain ⟨m, hm⟩ : ∃ m, d.es.length / 2 = m := ⟨_, rfl⟩
      rw [hm] at ho rl
      have m0 : 0 < m := by have := List.length_pos_iff.2 OK.out.ne; have := OK.out.ev; omega
      obtain ⟨g2, rfl⟩ : ∃ g2, p = some ⟨g2, 0, none⟩ := by
        obtain ⟨_, ⟨e, h0⟩ | ⟨g, cap, cur, e, _⟩⟩ := ho
        · omega
        · cases e; exact ⟨g, rfl⟩
      have CC : Hid (∀ (x : Nat) (u : Value), (cells4 (runs d.t d.b d.es))[x]? = some u → w2.cell? ((⟨g2, 0, none⟩ : Addr).add x) = some u) := Lib.hid (fun x u hx => by
        have lx := (List.getElem?_eq_some_iff.1 hx).1
        rw [cells4_len, rl] at lx
        rw [add_none, Nat.zero_add, ho.cellAt x (by omega), hx])
      have B0 : Hid (Below w.heap.size w w2) := Lib.hid (bel_tr0 (by have := KB.out; go_grown) hb)
      have HO2 : Hid (w2.ownsRow w.heap.size 40 4 (.slice pe n3 ce) n3 (cells4 (rectsB (l.take j)))) := Lib.hid (owns_later (HO.out.alloc _) hb)
      have hs2 := B0.out.size
      have NN : Hid (n3 + m ≤ 1073741824000) := Lib.hid (by have := NT.out; rw [HT.out, List.length_append, rl, ← HL.out] at this; exact this)
      clear ho hb rl HO KB
      go_wp2_with (at_builtin; go_loud (refine wpList_append_own _ rfl _ _ 77 rfl w.heap.size 40 i0 (.agg #[.int .i64 0, .int .i64 0, .int .i64 0, .int .i64 0]) 4 32 Try.underlying77 hi hz0 hz1 hz2 rfl (by decide) _ _ _ rfl HO2.out ⟨g2, 0, none⟩ m c2 (cells4 (runs d.t d.b d.es)) rfl ?c1 CC.out (cells4_one _) ?c3 ?c4 ?c5 ?_))
      case c1 => rw [cells4_len, runs_len, hm]
      case c3 => have := NN.out; unfold maxLen; omega
      case c4 => have := NN.out; omega
      case c5 => omega
      intro v1 w1 hown1 hgrow _
      rw [← cells4_append, ← HT.out] at hown1
      obtain ⟨a1, cap1, rfl⟩ : ∃ a1 cap1, v1 = .slice a1 (n3 + m) cap1 := by
        rcases Joins.ownsRow_forms hown1 with ⟨rfl, h⟩ | ⟨g, cap, rfl⟩
        · omega
        · exact ⟨_, cap, rfl⟩
      have HL1 : Hid (n3 + m = (rectsB (l.take (j + 1))).length) := Lib.hid (by have := hown1.1; rw [cells4_len] at this; omega)
      have B1 : Hid (Below w.heap.size w w1) := Lib.hid (B0.out.grown hgrow hs2 (fun j hj => by have := (HO2.out.lt j hj).1; omega))
      have HS : w.heap.size ≤ w1.heap.size := B1.out.size
      have HOW := Lib.hid hown1
      clear hown1 hgrow
      go_wp2_with fail
      go_roundw
      case rel => exact ⟨j + 1, n3 + m, a1, cap1, by go_num, by go_num, by omega, HL1, HOW.out, HS, B1⟩
      case measure => simp [intOf]; omega
    · obtain rfl : j = n := by omega
      have nlt : ¬ (j : Int) < (j : Int) := by omega
      have FIN : Hid (RcsR w l (.returned (.slice pe n3 ce)) wr) := Lib.hid ⟨_, rfl, by
        have := RS.of_owns hown
        rw [show l.take j = l by rw [HN.out, List.take_length]] at this
        exact this, fun k hk => (hown.lt k hk).1, KB.out⟩
      clear hown
      go_wp2_with fail
      go_returns
      exact FIN.out
end Go.Proofs.Ytjemnjboopabpaa
/- Package region: how many pixels a region has, and the least rectangle that has them. -/
namespace Go.Proofs.Ytjemnjboopabpaa
open Go.RowKit Go.Proofs.Reg Go.Proofs.Big Go.Proofs.Bands
set_option linter.unusedVariables false
set_option linter.unusedSimpArgs false
set_option maxRecDepth 100000
theorem fil_nrm {r : Q4} (f : Fil r) : Nrm r.1 r.2.1 r.2.2.1 r.2.2.2 r.1 r.2.1 r.2.2.1 r.2.2.2 := by
  obtain ⟨a, b, c, d⟩ := r
  obtain ⟨h0, h1, h2, h3, h4, h5⟩ := f
  dsimp only at *
  refine .inl ?_
  unfold lim
  omega
theorem fil_i64 {r : Q4} (f : Fil r) : I64 r.1 ∧ I64 r.2.1 ∧ I64 r.2.2.1 ∧ I64 r.2.2.2 := by
  obtain ⟨h0, h1, h2, h3, h4, h5⟩ := f
  unfold I64
  omega
theorem nil_nrm : Nrm 0 0 0 0 0 0 0 0 := .inr ⟨.inl (by decide), rfl, rfl, rfl, rfl⟩
theorem RS.cells {w : World} {v : Value} {rs : List Q4} (h : RS w v rs) : ∃ a n c, v = .slice a n c ∧ n = rs.length ∧ n ≤ 9223372036854775807 ∧ (0 < n → ∃ g o, a = some ⟨g, o, none⟩ ∧ ∀ k r, rs[k]? = some r → w.cell? ⟨g, o + k * 4, none⟩ = some (.int .i64 r.1) ∧ w.cell? ⟨g, o + k * 4 + 1, none⟩ = some (.int .i64 r.2.1) ∧ w.cell? ⟨g, o + k * 4 + 2, none⟩ = some (.int .i64 r.2.2.1) ∧ w.cell? ⟨g, o + k * 4 + 3, none⟩ = some (.int .i64 r.2.2.2)) := by
  obtain ⟨a, n, c, rfl, h1, h2, h3, h4⟩ := h
  exact ⟨a, n, c, rfl, h1, by omega, h4⟩
set_option maxHeartbeats 1000000 in
theorem garea_any (va : Value) (l : List Bd) (w : World) (h : Rg w va l) (few : Few l) : Calls Try.prog 36 #[va] w fun e w' => e = .returned (.int .i64 (areaP (hasP l))) ∧ Below w.heap.size w w' := by
  have RC := Lib.hid (fun w h => rects_any va l w h few)
  have HR := Lib.hid h
  obtain ⟨⟨v, rfl, hv⟩, wf, ir⟩ := h
  have FI := Lib.hid (rects_fil wf ir)
  have SZ := Lib.hid (size_bands wf ir)
  have AL := area_le (hasP l)
  obtain ⟨A, hA⟩ : ∃ A, areaP (hasP l) = A := ⟨_, rfl⟩
  rw [hA] at SZ AL ⊢
  obtain ⟨A0, A1⟩ := AL
  clear wf ir few hv hA
  go_enter Try.func36, Try.ntmps36
  go_wp2_with fail
  refine (RC.out _ (HR.out.later (by go_grown))).mono ?_
  rintro _ w1 ⟨u, rfl, hs, _, hb⟩
  have B1 := Lib.hid (show Below w.heap.size w w1 from bel_tr0 (by go_grown) hb)
  obtain ⟨a, n, c, rfl, hn, nb, hc⟩ := hs.cells
  have HN := Lib.hid hn
  have HC := Lib.hid hc
  clear hs hb hn hc
  go_wp2_with fail
  go_loopw [3, 9] (fun s3 s9 wr => ∃ (j : Nat) (S : Int), s3 = .int .i64 S ∧ s9 = .int .i64 j ∧ j ≤ n ∧ Hid (S = (((rectsB l).take j).map szQ).sum) ∧ Hid (Below w1.heap.size w1 wr)) (fun _ s9 _ => n - (intOf s9).toNat)
  case atStart => exact ⟨0, 0, rfl, rfl, by omega, Lib.hid rfl, Lib.hid (Below.refl _ _)⟩
  case round =>
    obtain ⟨j, S, rfl, rfl, jn, HS, KB⟩ := hrel
    by_cases lt : j < n
    · have lt' : (j : Int) < (n : Int) := by omega
      obtain ⟨g, o, rfl, hcl⟩ := HC.out (by omega)
      obtain ⟨r, hr⟩ : ∃ r, (rectsB l)[j]? = some r := ⟨_, List.getElem?_eq_getElem (by have := HN.out; omega)⟩
      obtain ⟨x0, x1, x2, x3⟩ := hcl j r hr
      have f := FI.out r (List.mem_of_getElem? hr)
      have d0 := cell_later KB.out x0
      have d1 := cell_later KB.out x1
      have d2 := cell_later KB.out x2
      have d3 := cell_later KB.out x3
      have s0 := size_take FI.out j
      have s1 := size_take FI.out (j + 1)
      have e1 : (((rectsB l).take (j + 1)).map szQ).sum = S + szQ r := by
        rw [List.take_add_one, hr, Option.toList_some, List.map_append, List.sum_append, ← HS.out]
        simp
      rw [e1, SZ.out] at s1
      rw [← HS.out] at s0
      have HE := Lib.hid e1.symm
      obtain ⟨i0, i1, i2, i3⟩ := fil_i64 f
      have XA := Lib.hid (xarea_any r.1 r.2.1 r.2.2.1 r.2.2.2 _ _ _ _ i0 i1 i2 i3 (fil_nrm f))
      have z0 := s0.1
      obtain ⟨z1, z2⟩ := s1
      obtain ⟨q, hq⟩ : ∃ q, szQ r = q := ⟨_, rfl⟩
      rw [hq] at z1 z2 HE
      have hq' : (r.2.2.1 - r.1) * (r.2.2.2 - r.2.1) = q := hq
      rw [hq'] at XA
      obtain ⟨ra, rb, rc, rd⟩ := r
      dsimp only at d0 d1 d2 d3 XA
      clear x0 x1 x2 x3 hcl hr f s0 e1 i0 i1 i2 i3 hq hq'
      unfold rv at XA
      go_wp2_with fail
      refine (XA.out _).mono ?_
      rintro _ w2 ⟨rfl, hb⟩
      have KB2 := Lib.hid (show Below w1.heap.size w1 w2 from bel_tr0 (by have := KB.out; have hz := KB.out.size; go_grown) hb)
      clear hb
      go_wp2_with fail
      go_roundw
      case rel => exact ⟨j + 1, S + q, by go_num, by go_num, by omega, HE, KB2⟩
      case measure => simp [intOf]; omega
    · obtain rfl : j = n := by omega
      have nlt : ¬ (j : Int) < (j : Int) := by omega
      have e : S = A := by rw [HS.out, ← SZ.out, HN.out, List.take_length]
      subst e
      have FIN := Lib.hid (bel_tr0 B1.out KB.out)
      go_wp2_with fail
      go_returns
      exact ⟨rfl, FIN.out⟩
theorem hl_nrm {P : Int → Int → Bool} {q : Q4} (h : Hl P q) : Nrm q.1 q.2.1 q.2.2.1 q.2.2.2 q.1 q.2.1 q.2.2.1 q.2.2.2 := by
  rcases h with ⟨rfl, _⟩ | ⟨f, _⟩
  · exact nil_nrm
  · exact fil_nrm f
theorem hl_i64 {P : Int → Int → Bool} {q : Q4} (h : Hl P q) : I64 q.1 ∧ I64 q.2.1 ∧ I64 q.2.2.1 ∧ I64 q.2.2.2 := by
  rcases h with ⟨rfl, _⟩ | ⟨f, _⟩
  · unfold I64; decide
  · exact fil_i64 f
theorem emB_iff (q : Q4) : emB q.1 q.2.1 q.2.2.1 q.2.2.2 = decide (q = (0, 0, 0, 0)) := by
  obtain ⟨a, b, c, d⟩ := q
  unfold emB
  by_cases h : a = 0 ∧ b = 0 ∧ c = 0 ∧ d = 0
  · obtain ⟨rfl, rfl, rfl, rfl⟩ := h; rfl
  · rw [decide_eq_false (by simpa using h)]
    cases e : ((a == 0) && (b == 0) && (c == 0) && (d == 0))
    · rfl
    · simp at e; exact absurd ⟨e.1.1.1, e.1.1.2, e.1.2, e.2⟩ h
theorem fil_ne {q : Q4} (f : Fil q) : q ≠ (0, 0, 0, 0) := by
  rintro rfl
  have := f.x1
  dsimp only at this
  omega
theorem hulR_of {P : Int → Int → Bool} {q r : Q4} (h : Hl P q) (f : Fil r) : HulR q.1 q.2.1 q.2.2.1 q.2.2.2 r.1 r.2.1 r.2.2.1 r.2.2.2 (if q = (0, 0, 0, 0) then r else hulQ q r).1 (if q = (0, 0, 0, 0) then r else hulQ q r).2.1 (if q = (0, 0, 0, 0) then r else hulQ q r).2.2.1 (if q = (0, 0, 0, 0) then r else hulQ q r).2.2.2 := by
  unfold HulR
  rw [emB_iff, emB_iff, decide_eq_false (fil_ne f)]
  by_cases z : q = (0, 0, 0, 0)
  · rw [decide_eq_true z, if_pos z]
    exact .inl ⟨rfl, rfl, rfl, rfl, rfl⟩
  · rw [decide_eq_false z, if_neg z]
    exact .inr (.inr ⟨rfl, rfl, rfl, rfl, rfl, rfl⟩)
set_option maxHeartbeats 1000000 in
theorem ghull_any (va : Value) (l : List Bd) (w : World) (h : Rg w va l) (few : Few l) : Calls Try.prog 48 #[va] w fun e w' => (∃ q : Q4, Hl (hasP l) q ∧ e = .returned (rv q.1 q.2.1 q.2.2.1 q.2.2.2)) ∧ Below w.heap.size w w' := by
  have RC := Lib.hid (fun w h => rects_any va l w h few)
  have HR := Lib.hid h
  obtain ⟨⟨v, rfl, hv⟩, wf, ir⟩ := h
  have FI := Lib.hid (rects_fil wf ir)
  have HB := Lib.hid (hull_bands wf ir)
  clear wf ir few hv
  go_enter Try.func48, Try.ntmps48
  go_wp2_with fail
  refine (RC.out _ (HR.out.later (by go_grown))).mono ?_
  rintro _ w1 ⟨u, rfl, hs, hfr, hb⟩
  have B1 := Lib.hid (show Below w.heap.size w w1 from bel_tr0 (by go_grown) hb)
  have T1 := Lib.hid ((((Tab.nil (w.alloc (.cells #[v] 26))).new' (b := w.heap.size + 1) [.int .i64 0, .int .i64 0, .int .i64 0, .int .i64 0] 40 (by simp)).new' (b := w.heap.size + 2) [.int .i64 0, .int .i64 0, .int .i64 0, .int .i64 0] 40 (by simp)).later hb)
  obtain ⟨a, n, c, rfl, hn, nb, hc⟩ := hs.cells
  have HF : Hid (∀ g o, a = some ⟨g, o, none⟩ → w.heap.size + 3 ≤ g) := Lib.hid (fun g o e => by have := hfr g (by rw [e]; rfl); simpa using this)
  have HN := Lib.hid hn
  have HC := Lib.hid hc
  clear hs hb hn hc hfr
  go_wp2_with fail
  go_loopw [9] (fun s9 wr => ∃ (j : Nat) (q : Q4), s9 = .int .i64 j ∧ j ≤ n ∧ Hid (q = hullN (rectsB l) j) ∧ Hid (Tab wr [(w.heap.size + 2, [.int .i64 q.1, .int .i64 q.2.1, .int .i64 q.2.2.1, .int .i64 q.2.2.2]), (w.heap.size + 1, [.int .i64 0, .int .i64 0, .int .i64 0, .int .i64 0])]) ∧ Hid (But [w.heap.size + 2] w1 wr)) (fun s9 _ => n - (intOf s9).toNat)
  case atStart => exact ⟨0, (0, 0, 0, 0), rfl, by omega, Lib.hid rfl, T1, Lib.hid (But.refl _ _)⟩
  case round =>
    obtain ⟨j, q, rfl, jn, HQ, HT, KB⟩ := hrel
    have hq := hullN_hl FI.out j (by have := HN.out; omega)
    rw [← HQ.out] at hq
    have nq := hl_nrm hq
    by_cases lt : j < n
    · have lt' : (j : Int) < (n : Int) := by omega
      obtain ⟨g, o, rfl, hcl⟩ := HC.out (by omega)
      have hg := HF.out g o rfl
      obtain ⟨r, hr⟩ : ∃ r, (rectsB l)[j]? = some r := ⟨_, List.getElem?_eq_getElem (by have := HN.out; omega)⟩
      obtain ⟨x0, x1, x2, x3⟩ := hcl j r hr
      have f := FI.out r (List.mem_of_getElem? hr)
      have d0 := KB.out.cell (by simp; omega) x0
      have d1 := KB.out.cell (by simp; omega) x1
      have d2 := KB.out.cell (by simp; omega) x2
      have d3 := KB.out.cell (by simp; omega) x3
      have hst := hullN_step (rectsB l) j r hr
      rw [← HQ.out] at hst
      have hu := hulR_of hq f
      rw [← hst] at hu
      obtain ⟨i0, i1, i2, i3⟩ := fil_i64 f
      obtain ⟨k0, k1, k2, k3⟩ := hl_i64 hq
      have XH := Lib.hid (xhull_any q.1 q.2.1 q.2.2.1 q.2.2.2 _ _ _ _ r.1 r.2.1 r.2.2.1 r.2.2.2 _ _ _ _ k0 k1 k2 k3 nq i0 i1 i2 i3 (fil_nrm f) _ _ _ _ hu)
      obtain ⟨s, hs⟩ : ∃ s, hullN (rectsB l) (j + 1) = s := ⟨_, rfl⟩
      rw [hs] at XH
      have HS : Hid (s = hullN (rectsB l) (j + 1)) := Lib.hid hs.symm
      obtain ⟨ra, rb, rc, rd⟩ := r
      obtain ⟨sa, sb, sc, sd⟩ := s
      dsimp only at d0 d1 d2 d3 XH
      have c0 := HT.out.cell 0 0 rfl rfl
      have c1 := HT.out.cell 0 1 rfl rfl
      have c2 := HT.out.cell 0 2 rfl rfl
      have c3 := HT.out.cell 0 3 rfl rfl
      have lz := HT.out.lt 0 rfl
      clear x0 x1 x2 x3 hcl hr f hst hu i0 i1 i2 i3 k0 k1 k2 k3 nq hq hs
      unfold rv at XH
      go_wp2_with fail
      refine (XH.out _).mono ?_
      rintro _ w2 ⟨rfl, hb⟩
      have KT := Lib.hid ((HT.out.alloc _).later hb)
      have KB2 := Lib.hid ((KB.out.alloc _).later hb)
      clear hb c0 c1 c2 c3 d0 d1 d2 d3 lz
      have c0 := KT.out.cell 0 0 rfl rfl
      have c1 := KT.out.cell 0 1 rfl rfl
      have c2 := KT.out.cell 0 2 rfl rfl
      have c3 := KT.out.cell 0 3 rfl rfl
      have f0 := KT.out.froz 0 0 rfl rfl
      have f1 := KT.out.froz 0 1 rfl rfl
      have f2 := KT.out.froz 0 2 rfl rfl
      have f3 := KT.out.froz 0 3 rfl rfl
      have ND : ([w.heap.size + 2, w.heap.size + 1] : List Nat).Nodup := by simp
      have TN := Lib.hid ((((KT.out.set1 0 0 (.int .i64 sa) rfl ND).set1 0 1 (.int .i64 sb) rfl ND).set1 0 2 (.int .i64 sc) rfl ND).set1 0 3 (.int .i64 sd) rfl ND)
      have BN := Lib.hid ((((KB2.out.setCell (p := ⟨w.heap.size + 2, 0, none⟩) (.inl (by simp)) (.int .i64 sa)).setCell (p := ⟨w.heap.size + 2, 1, none⟩) (.inl (by simp)) (.int .i64 sb)).setCell (p := ⟨w.heap.size + 2, 2, none⟩) (.inl (by simp)) (.int .i64 sc)).setCell (p := ⟨w.heap.size + 2, 3, none⟩) (.inl (by simp)) (.int .i64 sd))
      clear ND KT KB2
      go_wp2_with fail
      go_roundw
      case rel => exact ⟨j + 1, (sa, sb, sc, sd), by go_num, by omega, HS, TN, BN⟩
      case measure => simp [intOf]; omega
    · obtain rfl : j = n := by omega
      have nlt : ¬ (j : Int) < (j : Int) := by omega
      have e : Hl (hasP l) q := by rw [HQ.out, HN.out]; exact HB.out
      have HE := Lib.hid e
      have c0 := HT.out.cell 0 0 rfl rfl
      have c1 := HT.out.cell 0 1 rfl rfl
      have c2 := HT.out.cell 0 2 rfl rfl
      have c3 := HT.out.cell 0 3 rfl rfl
      have e0 := HT.out.cell 1 0 rfl rfl
      have e1 := HT.out.cell 1 1 rfl rfl
      have e2 := HT.out.cell 1 2 rfl rfl
      have e3 := HT.out.cell 1 3 rfl rfl
      have f0 := HT.out.froz 1 0 rfl rfl
      have f1 := HT.out.froz 1 1 rfl rfl
      have f2 := HT.out.froz 1 2 rfl rfl
      have f3 := HT.out.froz 1 3 rfl rfl
      have lz := HT.out.lt 1 rfl
      have FIN := Lib.hid (But.below B1.out KB.out (by have := T1.out.lt 0 rfl; omega) (fun i hi => by simp at hi; omega))
      clear hq nq e
      go_wp2_with fail
      refine bodyPost_ret (v := .agg #[.int .i64 q.1, .int .i64 q.2.1, .int .i64 q.2.2.1, .int .i64 q.2.2.2]) (by simp [results, Try.results48, go_sem, e0, e1, e2, e3]) rfl ?_
      exact ⟨⟨q.1, q.2.1, q.2.2.1, q.2.2.2, HE.out, rfl⟩, (((FIN.out.setCell (by simp) _).setCell (by simp) _).setCell (by simp) _).setCell (by simp) _⟩
end Go.Proofs.Ytjemnjboopabpaa
