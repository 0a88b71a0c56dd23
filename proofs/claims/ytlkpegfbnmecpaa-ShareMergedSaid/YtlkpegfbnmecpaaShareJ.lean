/- Law 5: single operations on lists of int64. -/
import Derived.Test.YtlkpegfbnmecpaaShareI
import Derived.WalkKit
import Derived.WalkSpells
import Derived.WalkLawsBesides
import Derived.Handy
import Derived.Lib.Hide
namespace Go.Proofs.Ytlkpegfbnmecpaa
open Go.RowKit Go.Proofs.Reg Go.Proofs.Big
set_option linter.unusedVariables false
set_option linter.unusedSimpArgs false
theorem index_i64 (p : Addr) (n c k : Nat) (h : k < n) (w : World) : (Instr.indexAt 22 (.slice (some p) n c) (.int .i64 k)).run Try.prog w = .ok (.pointer (some (p.add k))) w := by
  have kn : (k : Int) < (n : Int) := by omega
  have k0 : (0 : Int) ≤ (k : Int) := by omega
  generalize hq : p.add k = q
  simp [go_sem, kn, k0, hq]
theorem slice_from (p : Addr) (n c k : Nat) (h : k ≤ n) (w : World) : (Instr.sliceAt 22 (.slice (some p) n c) (some (.int .i64 k)) none none).run Try.prog w = .ok (.slice (if c = k then some p else some (p.add k)) (n - k) (c - k)) w := by
  have kn : (k : Int) ≤ (n : Int) := by omega
  have k0 : (0 : Int) ≤ (k : Int) := by omega
  generalize hq : p.add k = q
  simp [go_sem, kn, k0, hq]
theorem bslice1_i64 (x : Int) (w : World) : (Instr.buildSlice 22 1 #[(0, .int .i64 x)]).run Try.prog w = .ok (.slice (some ⟨w.heap.size, 0, none⟩) 1 1) (w.alloc (.cells #[.int .i64 x] 2)) := by
  simp [go_sem]
theorem add_i64 (x y : Int) (h : -9223372036854775808 ≤ x + y ∧ x + y ≤ 9223372036854775807) (w : World) : (binOp .add 2 (.int .i64 x) (.int .i64 y)).run Try.prog w = .ok (.int .i64 (x + y)) w := by
  obtain ⟨h0, h1⟩ := h
  simp [go_sem, IntKind.wrap_i64]
  omega
theorem add_int (x y : Int) (h : -9223372036854775808 ≤ x + y ∧ x + y ≤ 9223372036854775807) (w : World) : (binOp .add 3 (.int .i64 x) (.int .i64 y)).run Try.prog w = .ok (.int .i64 (x + y)) w := by
  obtain ⟨h0, h1⟩ := h
  simp [go_sem, IntKind.wrap_i64]
  omega
theorem load_i64 {q : Addr} {w : World} {v : Int} (h : w.cell? q = some (.int .i64 v)) : (Instr.loadAt 2 (.pointer (some q))).run Try.prog w = .ok (.int .i64 v) w := by
  simp [go_sem, h]
end Go.Proofs.Ytlkpegfbnmecpaa
