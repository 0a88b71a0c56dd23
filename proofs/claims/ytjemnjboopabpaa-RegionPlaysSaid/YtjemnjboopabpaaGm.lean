/- Package region: the rectangles of a band: what the loop and the region of a round keep. Made by gen/grects.py. -/
import Derived.Test.YtjemnjboopabpaaGl
import Derived.Test.YtjemnjboopabpaaRegI
namespace Go.Proofs.Ytjemnjboopabpaa
open Go.RowKit Go.Shelf Go.Proofs.Reg Go.Proofs.Big Go.Proofs.Bands
set_option linter.unusedVariables false
set_option linter.unusedSimpArgs false
set_option maxRecDepth 100000
attribute [local go_sem] Oper.semAt_some
/-- the cells of the x-th rectangle -/
def rcs (t b : Int) (es : List Int) (x : Nat) : List Value := [.int .i64 (es.getD (2 * x) 0), .int .i64 t, .int .i64 (es.getD (2 * x + 1) 0), .int .i64 b]
theorem boxed_kept {W W' : World} {row : Option Nat} {B : Nat} {t : TypeId} {v : Value} (h : Boxed W B t v) (hg : W.grownBy W' row) (hr : ∀ r, row = some r → ∃ o : Obj, W.heap[r]? = some o ∧ o.isCells = false) : Boxed W' B t v :=
  h.kept hg fun e => by
    obtain ⟨o, ho, hc⟩ := hr _ e.symm
    rw [show W.heap[B]? = some (.cells #[v] t (0, 0)) from h] at ho
    cases ho
    cases hc
theorem owns_kept {W W' : World} {row : Option Nat} {base size n : Nat} {e : TypeId} {v : Value} {xs : List Value} (h : W.ownsRow base e size v n xs) (hg : W.grownBy W' row) (hr : ∀ r, row = some r → ∃ o : Obj, W.heap[r]? = some o ∧ o.isCells = false) : W'.ownsRow base e size v n xs := by
  refine h.kept hg ?_
  by_cases q : v.ownBlock = row
  · left
    cases hq : v.ownBlock with
    | none => rfl
    | some g =>
      obtain ⟨o, ho, hc⟩ := hr g (by rw [← q, hq])
      obtain ⟨c, fz, hk⟩ := Lib.ownsRow_kind h g hq
      rw [hk] at ho
      cases ho
      cases hc
  · right; exact q
/-- what holds between two rounds -/
structure RtI (t b : Int) (es : List Int) (w1 : World) (nb X Bs Bn : Nat) (sv : Value) (pre : List Nat) (W : World) : Prop where
  row : ∃ p c, Boxed W X 77 (.slice p pre.length c) ∧ W.ownsRow nb 40 4 (.slice p pre.length c) pre.length (pre.flatMap (rcs t b es))
  bs : Boxed W Bs 69 sv
  bn : Boxed W Bn 3 (.int .i64 2)
  below : Below nb w1 W
  sz : nb ≤ W.heap.size
theorem RtI.own {t b : Int} {es : List Int} {w1 : World} {nb X Bs Bn : Nat} {sv : Value} {B : Nat} (h : nb ≤ B) : OwnFrom B (RtI t b es w1 nb X Bs Bn sv) := fun s W W' row hs hg hr => by
  have hr' : ∀ r, row = some r → ∃ o : Obj, W.heap[r]? = some o ∧ o.isCells = false := fun r e => (hr r e).2
  obtain ⟨p, c, h1, h2⟩ := hs.row
  exact ⟨⟨p, c, boxed_kept h1 hg hr', owns_kept h2 hg hr'⟩, boxed_kept hs.bs hg hr', boxed_kept hs.bn hg hr', hs.below.grown hg hs.sz (fun j e => by have := (hr j e).1; omega), Nat.le_trans hs.sz hg.size⟩
/-- what the region of a round keeps: W is the world ahead of it -/
structure RtB (t b e0 e1 : Int) (nb X Bs Bn : Nat) (k : Nat) (SV : Value) (xs : List Value) (W : World) (L : Nat → Bool) (vz : Nat → Value) (wy : World) : Prop where
  below : Below nb W wy
  sz : W.heap.size ≤ wy.heap.size
  own : L 13 = false → wy.ownsRow nb 40 4 SV k xs
  box : L 14 = false → Boxed wy X 77 SV
  f12 : L 12 = true → L 13 = false → ∃ q, vz 12 = .slice (some ⟨q, 0, none⟩) 1 1 ∧ ∀ j u, [Value.int .i64 e0, .int .i64 t, .int .i64 e1, .int .i64 b][j]? = some u → wy.cell? ((⟨q, 0, none⟩ : Addr).add j) = some u
  f13 : L 13 = true → ∃ p c, vz 13 = .slice p (k + 1) c ∧ wy.ownsRow nb 40 4 (vz 13) (k + 1) (xs ++ [.int .i64 e0, .int .i64 t, .int .i64 e1, .int .i64 b])
  f14 : L 14 = true → Boxed wy X 77 (vz 13)
  keep : KeepsOthers W wy
  kp : Kp2 Bs Bn W wy
section
variable {t b e0 e1 : Int} {nb X Bs Bn k : Nat} {SV : Value} {xs : List Value} {W : World} {L : Nat → Bool} {vz : Nat → Value} {wy : World}
theorem RtB.start (ho : W.ownsRow nb 40 4 SV k xs) (hb : Boxed W X 77 SV) : RtB t b e0 e1 nb X Bs Bn k SV xs W (fun _ => false) (fun _ => undef) W.drew :=
  ⟨(Below.refl _ _).drew, Nat.le_refl _, fun _ => ho.drew, fun _ => hb, by simp, by simp, by simp, KeepsOthers.drew _, rfl, rfl⟩
theorem RtB.other (h : RtB t b e0 e1 nb X Bs Bn k SV xs W L vz wy) (i : Nat) (v : Value) (hi : i ≠ 12 ∧ i ≠ 13 ∧ i ≠ 14) : RtB t b e0 e1 nb X Bs Bn k SV xs W (addL L i) (upd vz i v) wy := by
  obtain ⟨h12, h13, h14⟩ := hi
  have a : ∀ k, k ≠ i → addL L i k = L k := fun k hk => by simp [addL, hk]
  have c : ∀ k, k ≠ i → upd vz i v k = vz k := fun k hk => by simp [upd, hk]
  refine ⟨h.below, h.sz, ?_, ?_, ?_, ?_, ?_, h.keep, h.kp⟩
  · rw [a 13 (Ne.symm h13)]; exact h.own
  · rw [a 14 (Ne.symm h14)]; exact h.box
  · rw [a 12 (Ne.symm h12), a 13 (Ne.symm h13), c 12 (Ne.symm h12)]; exact h.f12
  · rw [a 13 (Ne.symm h13), c 13 (Ne.symm h13)]; exact h.f13
  · rw [a 14 (Ne.symm h14), c 13 (Ne.symm h13)]; exact h.f14
theorem RtB.c12 (h : RtB t b e0 e1 nb X Bs Bn k SV xs W L vz wy) (z13 : L 13 = false) (hnb : nb ≤ wy.heap.size) (hBs : Bs < W.heap.size) (hBn : Bn < W.heap.size) (o : Obj) (q : Nat) (hq : ∀ j u, [Value.int .i64 e0, .int .i64 t, .int .i64 e1, .int .i64 b][j]? = some u → (wy.alloc o).cell? ((⟨q, 0, none⟩ : Addr).add j) = some u) (z14 : L 14 = false) :
    RtB t b e0 e1 nb X Bs Bn k SV xs W (addL L 12) (upd vz 12 (.slice (some ⟨q, 0, none⟩) 1 1)) (wy.alloc o) := by
  have hz := h.sz
  refine ⟨h.below.alloc hnb o, by simp; omega, ?_, ?_, fun _ _ => ⟨q, by simp [upd], hq⟩, ?_, ?_, h.keep.trans (KeepsOthers.alloc _ _), ?_⟩
  · simp only [addL]; simp; exact fun z => (h.own z).alloc _
  · simp only [addL]; simp; exact fun z => (h.box z).alloc _
  · simp only [addL]; simp [z13]
  · simp only [addL]; simp [z14]
  · exact h.kp.trans ⟨Below.heap_alloc _ _ _ (by omega), Below.heap_alloc _ _ _ (by omega)⟩
theorem RtB.c13 (h : RtB t b e0 e1 nb X Bs Bn k SV xs W L vz wy) (z13 : L 13 = false) (z14 : L 14 = false) (hnb : nb ≤ wy.heap.size) {sv : Value} (hBs : Boxed W Bs 69 sv) (hBn : Boxed W Bn 3 (.int .i64 2)) {p : Option Addr} {c : Nat} {w' : World} (ho : w'.ownsRow nb 40 4 (.slice p (k + 1) c) (k + 1) (xs ++ [.int .i64 e0, .int .i64 t, .int .i64 e1, .int .i64 b])) (hg : wy.grownBy w' SV.ownBlock) :
    RtB t b e0 e1 nb X Bs Bn k SV xs W (addL L 13) (upd vz 13 (.slice p (k + 1) c)) w' := by
  have own := h.own z13
  have nn : ∀ (B : Nat) (T : TypeId) (v : Value), T ≠ 40 → Boxed wy B T v → some B ≠ SV.ownBlock := fun B T v hT hb => hb.not_row hT own
  have b1 : Boxed wy Bs 69 sv := h.kp.1.trans hBs
  have b2 : Boxed wy Bn 3 (.int .i64 2) := h.kp.2.trans hBn
  refine ⟨h.below.grown hg hnb (fun j e => (own.lt j e).1), Nat.le_trans h.sz hg.size, ?_, ?_, ?_, fun _ => ⟨p, c, by simp [upd], by simpa [upd] using ho⟩, ?_, h.keep.trans (KeepsOthers.of_grownBy hg fun j o e ho' => ?_), h.kp.trans ⟨hg.block Bs b1.lt (nn _ _ _ (by decide) b1), hg.block Bn b2.lt (nn _ _ _ (by decide) b2)⟩⟩
  · simp [addL]
  · simp only [addL]; simp; exact fun z => (h.box z).kept hg (nn _ _ _ (by decide) (h.box z))
  · simp [addL]
  · simp only [addL]; simp [z14]
  · obtain ⟨c', fz, hk⟩ := Lib.ownsRow_kind own j e
    rw [hk] at ho'
    cases ho'
    rfl
theorem RtB.c14 (h : RtB t b e0 e1 nb X Bs Bn k SV xs W L vz wy) (h13 : L 13 = true) (z14 : L 14 = false) (hX : nb ≤ X) (n1 : X ≠ Bs) (n2 : X ≠ Bn) (v : Value) : RtB t b e0 e1 nb X Bs Bn k SV xs W (addL L 14) (upd vz 14 v) (wy.setCell ⟨X, 0, none⟩ (vz 13)) := by
  have bx := h.box z14
  refine ⟨h.below.setCell hX _, by simp; exact h.sz, ?_, ?_, ?_, fun _ => ?_, fun _ => ?_, h.keep.trans (KeepsOthers.setCell _ _ _), h.kp.trans ⟨Below.heap_setCell _ _ _ _ (fun e => n1 e.symm), Below.heap_setCell _ _ _ _ (fun e => n2 e.symm)⟩⟩
  · simp only [addL]; simp [h13]
  · simp [addL]
  · simp only [addL]; simp [h13]
  · obtain ⟨p, c, e, ho⟩ := h.f13 h13
    refine ⟨p, c, by simpa [upd] using e, ?_⟩
    have : upd vz 14 v 13 = vz 13 := by simp [upd]
    rw [this]
    refine ownsRow_setCell_other ho (fun q => ?_) _
    exact bx.not_row (by decide) ho q.symm
  · have : upd vz 14 v 13 = vz 13 := by simp [upd]
    rw [this]
    exact bx.set _
end
end Go.Proofs.Ytjemnjboopabpaa
