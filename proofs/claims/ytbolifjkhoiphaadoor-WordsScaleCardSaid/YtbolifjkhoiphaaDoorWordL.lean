/- Words scaled under Tryd. -/
import Derived.Test.YtbolifjkhoiphaaDoorWordT
import Derived.WalkKit
import Derived.WalkSpells
import Derived.WalkLawsBesides
import Derived.Handy
import Derived.Lib.Hide
import Derived.Deep.QuietTactic
import Derived.BigQuiet
import Derived.LoopTactic
import Derived.Outline
namespace Go.Proofs.YtbolifjkhoiphaaDoor
open Go.RowKit Go.Proofs.Reg Go.Proofs.Big
set_option linter.unusedVariables false
set_option linter.unusedSimpArgs false
set_option maxRecDepth 100000
theorem first_bad (f : W3 → Int) : ∀ ws : List W3, (∀ r ∈ ws, f r = 0) ∨ ∃ (k : Nat) (r : W3), ws[k]? = some r ∧ f r ≠ 0 ∧ ∀ (j : Nat) (r' : W3), j < k → ws[j]? = some r' → f r' = 0
  | [] => .inl (fun r m => by cases m)
  | a :: ws => by
    by_cases h : f a = 0
    · rcases first_bad f ws with g | ⟨k, r, h1, h2, h3⟩
      · exact .inl (fun r m => by
          rcases List.mem_cons.1 m with rfl | m
          · exact h
          · exact g r m)
      · refine .inr ⟨k + 1, r, by simpa using h1, h2, fun j r' lt e => ?_⟩
        cases j with
        | zero => simp at e; subst e; exact h
        | succ j => exact h3 j r' (by omega) (by simpa using e)
    · exact .inr ⟨0, a, rfl, h, fun j r' lt => by omega⟩
theorem IsSc.ex (p q : Int) (ws : List W3) : ∃ out er, IsSc p q ws out er := by
  rcases first_bad (e1 p q) ws with g | ⟨k, r, h1, h2, h3⟩
  · exact ⟨_, 0, .inl ⟨rfl, g, rfl⟩⟩
  · exact ⟨[], e1 p q r, .inr ⟨h2, rfl, k, r, h1, rfl, h3⟩⟩
theorem WS.aside {w : World} {v : Value} {rs : List W3} (h : WS w v rs) {b : Nat} (hb : ∀ (p : Addr) (n c : Nat), v = .slice (some p) n c → b < p.block) (u : Value) : WS (w.setCell ⟨b, 0, none⟩ u) v rs := by
  obtain ⟨a, n, c, rfl, hn, hc, hm, h5⟩ := h
  refine ⟨a, n, c, rfl, hn, hc, hm, fun q => ?_⟩
  obtain ⟨g, o, rfl, hk⟩ := h5 q
  have gb := hb _ n c rfl
  refine ⟨g, o, rfl, fun k r hr => ?_⟩
  obtain ⟨x0, x1, x2⟩ := hk k r hr
  have ne : ∀ i : Nat, (⟨b, 0, none⟩ : Addr) ≠ ⟨g, i, none⟩ := fun i e => by injection e; dsimp only at gb; omega
  exact ⟨by rw [World.cell?_setCell_other _ _ _ _ (ne _)]; exact x0, by rw [World.cell?_setCell_other _ _ _ _ (ne _)]; exact x1, by rw [World.cell?_setCell_other _ _ _ _ (ne _)]; exact x2⟩
/-- what the law's closure leaves -/
def ScQ (bg B : Nat) (w : World) (out : List W3) (w' : World) : Prop := But [bg] w w' ∧ ∃ u, w'.cell? ⟨bg, 0, none⟩ = some u ∧ WS w' u out ∧ ∀ (p : Addr) (n c : Nat), u = .slice (some p) n c → B ≤ p.block
set_option maxHeartbeats 4000000 in
theorem scale12_in (bi bp bq bg : Nat) (p q : Int) (p0 : -9223372036854775808 ≤ p) (p1 : p ≤ 9223372036854775807) (q0 : -9223372036854775808 ≤ q) (q1 : q ≤ 9223372036854775807) (v : Value) (ws out : List W3) (er : Int) (w : World) (hv : w.cell? ⟨bi, 0, none⟩ = some v) (hp : w.cell? ⟨bp, 0, none⟩ = some (.int .i64 p)) (hq : w.cell? ⟨bq, 0, none⟩ = some (.int .i64 q)) (hg : Var w ⟨bg, 0, none⟩ (.slice none 0 0)) (h : WS w v ws)
    (hi : ∀ r ∈ ws, (-9223372036854775808 ≤ r.1 ∧ r.1 ≤ 9223372036854775807) ∧ (-9223372036854775808 ≤ r.2.1 ∧ r.2.1 ≤ 9223372036854775807)) (hl : ws.length ≤ 1000) (hs : IsSc p q ws out er) :
    Calls Tryd.prog 19 #[.pointer (some ⟨bi, 0, none⟩), .pointer (some ⟨bp, 0, none⟩), .pointer (some ⟨bq, 0, none⟩), .pointer (some ⟨bg, 0, none⟩)] w fun e w' => ((er = 0 ∧ e = .returned (.tuple #[])) ∨ (er ≠ 0 ∧ e = .panicked (gave er))) ∧ ScQ bg w.heap.size w out w' := by
  have WC := Lib.hid (wscale_any p q p0 p1 q0 q1 v ws w h hi hl)
  have HS := Lib.hid hs
  have HG := Lib.hid hg
  obtain ⟨va, vn, vc, rfl, hx⟩ := h
  have hgc := hg.c
  have hgz := hg.z
  clear hs hi hl hx hg
  go_enter Tryd.func19, Tryd.ntmps19
  go_wp2_with fail
  refine WC.out.mono ?_
  rintro e w1 ⟨hb, out', er', hs', hc⟩
  obtain ⟨rfl, rfl⟩ := hs'.uniq HS.out
  have G1 := Lib.hid (HG.out.later hb)
  have HB := Lib.hid hb
  clear hv hp hq hgc hgz
  rcases hc with ⟨rfl, u, rfl, hw, hbl⟩ | ⟨hz, rfl⟩
  · obtain ⟨ua, un, uc, rfl, hh⟩ := hw
    have gl : bg < w.heap.size := HG.out.lt
    have FIN : Hid (ScQ bg w.heap.size w out' (w1.setCell ⟨bg, 0, none⟩ (.slice ua un uc))) := Lib.hid ⟨(But.of HB.out).setCell (.inl (by simp)) _, _, World.cell?_setCell_same _ _ _ G1.out.c, WS.aside ⟨ua, un, uc, rfl, hh⟩ (fun p n c e => by have := hbl p n c e; omega) _, hbl⟩
    have gc := G1.out.c
    have gz := G1.out.z
    clear hb hs' hbl hh
    go_wp2_with fail
    go_end0
    first | exact ⟨rfl, FIN.out⟩ | exact ⟨.inl ⟨rfl, rfl⟩, FIN.out⟩
  · have FIN : Hid (ScQ bg w.heap.size w out' w1) := Lib.hid ⟨But.of HB.out, _, G1.out.c, by
      rcases hs' with ⟨e, _⟩ | ⟨_, rfl, _⟩
      · exact absurd e hz
      · exact ⟨none, 0, 0, rfl, rfl, by omega, by decide, fun h => by omega⟩, fun p n c h => by cases h⟩
    exact ⟨rfl, .inr ⟨hz, rfl⟩, FIN.out⟩
end Go.Proofs.YtbolifjkhoiphaaDoor
