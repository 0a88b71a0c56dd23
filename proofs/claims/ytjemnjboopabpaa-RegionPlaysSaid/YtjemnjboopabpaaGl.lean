/- Package region: the rectangles of a band. -/
import Derived.Test.YtjemnjboopabpaaGk
import Derived.Test.YtjemnjboopabpaaGj
namespace Go.Proofs.Ytjemnjboopabpaa
open Go.RowKit Go.Shelf Go.Proofs.Reg Go.Proofs.Big Go.Proofs.Bands
set_option linter.unusedVariables false
set_option linter.unusedSimpArgs false
set_option maxRecDepth 100000
attribute [local go_sem] Oper.semAt_some
theorem chunk_in (F : Fence) (n : Nat) (h5 : F.fn 87) (hro : F.round = none) (a : Option Addr) (len cap : Nat) (w : World) :
    CallsIn F n Try.prog 87 #[.slice a len cap, .int .i64 2] w fun e w' => e = .returned (.func (.func 98) #[] #[.pointer (some ⟨w.heap.size, 0, none⟩), .pointer (some ⟨w.heap.size + 1, 0, none⟩)]) ∧ w' = (w.alloc (.cells #[.slice a len cap] 69)).alloc (.cells #[.int .i64 2] 3) := by
  refine callsIn_of_wp Try.func87 rfl h5 ?_ hro
  simp only [Try.ntmps87, List.size_toArray, List.length_cons, List.length_nil, Nat.reduceAdd, Nat.reduceSub, Array.replicate_succ, Array.replicate_zero, List.push_toArray, List.append_toArray, List.nil_append, List.cons_append]
  gi_wp2
  go_ret
  exact ⟨rfl, rfl⟩
theorem chunk_stops (F : Fence) (n : Nat) (h7 : F.fn 98) (hro : F.round = none) (hn : 1 ≤ n) (Bs Bn b off len cap m : Nat) (hm : Hid (len = 2 * m)) (hlc : len ≤ cap) (hcm : len < 1000000000000) (w : World)
    (hBs : w.cell? ⟨Bs, 0, none⟩ = some (.slice (some ⟨b, off, none⟩) len cap)) (hBn : w.cell? ⟨Bn, 0, none⟩ = some (.int .i64 2)) :
    SeqStopsK F n Try.prog 98 #[.pointer (some ⟨Bs, 0, none⟩), .pointer (some ⟨Bn, 0, none⟩)] (fun x : {x : Nat // x < m} => #[two b off x.1]) (Kp2 Bs Bn) (fun ys => ys.map Subtype.val = List.range m) (fun _ => True) m w := fun l J Jx W hW hJ _ hY h0 => by
  refine (chunk1_in F n h7 hro hn l Bs Bn b off len cap m hm hlc hcm (fun ys W => ∃ zs : List {x : Nat // x < m}, zs.map Subtype.val = ys ∧ J zs W) (fun ys W => ∃ zs : List {x : Nat // x < m}, zs.map Subtype.val = ys ∧ Jx zs W) (fun s W1 ⟨zs, e, h⟩ => ⟨zs, e, hJ zs W1 W1.drew none h ⟨rfl, rfl, rfl, Nat.le_refl _, fun _ _ _ => rfl⟩ (fun r e => by cases e)⟩) (fun pre x W1 ⟨zs, e, h⟩ hl hx => ?_) W (cell_later hW hBs) (cell_later hW hBn) ⟨[], rfl, h0⟩).mono ?_
  · refine (hY zs ⟨x, hx⟩ W1 h (by rw [← e, List.length_map] at hl; exact hl)).mono ?_
    rintro e' W' (⟨r, j, k⟩ | ⟨r, j⟩)
    · exact .inl ⟨r, ⟨_, by rw [List.map_append, e]; rfl, j⟩, k⟩
    · exact .inr ⟨r, ⟨_, by rw [List.map_append, e]; rfl, j⟩⟩
  · rintro e' W' ⟨he, ⟨ys, rfl, zs, e, hj⟩ | ⟨pre, _, zs, e, hj⟩⟩
    · exact ⟨he, .inl ⟨_, e, hj⟩⟩
    · exact ⟨he, .inr ⟨_, trivial, hj⟩⟩
theorem info_rect : (Try.prog.info? 40).map (fun i => (i.zero, i.size, i.bytes)) = some (some (.agg #[.int .i64 0, .int .i64 0, .int .i64 0, .int .i64 0]), 4, 32) := by kernel_rfl
theorem rect_parts : ∃ i, Try.prog.info? 40 = some i ∧ i.zero = some (.agg #[.int .i64 0, .int .i64 0, .int .i64 0, .int .i64 0]) ∧ i.size = 4 ∧ i.bytes = 32 := by
  have h := info_rect
  cases hq : Try.prog.info? 40 with
  | none => rw [hq] at h; simp at h
  | some i =>
    rw [hq] at h
    simp only [Option.map_some, Option.some.injEq, Prod.mk.injEq] at h
    exact ⟨i, rfl, h.1, h.2.1, h.2.2⟩
theorem make_rects (m : Nat) (hm : m ≤ 1000000000) (w : World) : (Instr.makeSlice 77 (.int .i64 0) (.int .i64 m)).run Try.prog w = .ok (.slice (some ⟨w.heap.size, 0, none⟩) 0 m) (w.alloc (.cells (madeCells #[.int .i64 0, .int .i64 0, .int .i64 0, .int .i64 0] (m * 4)) 40)) := by
  obtain ⟨i0, hi, hz0, hz1, hz2⟩ := rect_parts
  have hmk := run_make (P := Try.prog) w 77 40 i0 (.agg #[.int .i64 0, .int .i64 0, .int .i64 0, .int .i64 0]) Try.underlying77 hi hz0 .i64 .i64 0 (m : Int) (by omega) (by omega) (by rw [hz2]; omega) (by omega)
  rw [hz1, show ((m : Int)).toNat = m from by omega] at hmk
  exact hmk
end Go.Proofs.Ytjemnjboopabpaa
