/- FixedTries' two Trys joined, and 'caught' over them. -/
import Derived.Test.YtkohefgendcofaaTries
import Derived.WalkKit
import Derived.WalkSpells
import Derived.WalkLawsBesides
import Derived.Handy
import Derived.Lib.Hide
import Derived.LaidEql
import Derived.Deep.QuietTactic
import Derived.BigQuiet
import Derived.LoopTactic
import Derived.Deep.RegionHeld3
import Derived.Deep.RegionWith
import Derived.Outline
import Derived.Deep.DeepCutAuto
namespace Go.Proofs.Ytkohefgendcofaa
open Go.RowKit
set_option linter.unusedVariables false
set_option linter.unusedSimpArgs false
set_option maxRecDepth 100000
theorem run_equalIn_iface_str {P : Program} (w : World) (d : Nat) {ti tn : TypeId} {ms : Array (String × TypeId)} {i : TypeInfo} (a b : ByteArray)
    (hi : P.underlying ti = some (.interface ms)) (hn : P.underlying tn = some .string) (hinfo : P.info? tn = some i) (hcomp : i.comparable = true) :
    (Op.equalIn (d + 2) ti (.iface tn (.string a)) (.iface tn (.string b))).run P w = .ok (a == b) w := by
  simp [Op.equalIn, run_underlying hi, run_underlying hn, typeInfo, hinfo, hcomp]
theorem eql_word (s : ByteArray) (w : World) : (binOp BinOp.eql 20 (.iface 9 (.string s)) (.iface 9 (.string s))).run Try.prog w = .ok (.bool true) w := by
  obtain ⟨i, hi, hc⟩ : ∃ i, Try.prog.info? 9 = some i ∧ i.comparable = true := by
    cases h : Try.prog.info? 9 with
    | none =>
      have : (Try.prog.info? 9).isSome = true := by kernel_rfl
      rw [h] at this
      cases this
    | some i =>
      have : (Try.prog.info? 9).map (·.comparable) = some true := by kernel_rfl
      rw [h] at this
      exact ⟨i, rfl, by simpa using this⟩
  simp only [binOp]
  simp [Op.equal, Op.maxDepth, run_equalIn_iface_str w 9998 s s (P := Try.prog) (ti := 20) (tn := 9) (ms := #[]) (by kernel_rfl) (by kernel_rfl) hi hc]
  show ByteArray.beq s s = true
  simp [ByteArray.beq]
theorem In.alloc {w : World} {ps pk pi pw : Nat} {n k i : Int} {s : ByteArray} (h : In w ps pk pi pw n k i s) (b : Obj) : In (w.alloc b) ps pk pi pw n k i s :=
  ⟨h.S.alloc b, h.K.alloc b, h.I.alloc b, h.W.alloc b, h.ne⟩
theorem Out.later {w w' : World} {ps pk pi pw pn po : Nat} {n k i e o : Int} {s : ByteArray} (h : Out w ps pk pi pw pn po n k i e o s) (b : Below w.heap.size w w') : Out w' ps pk pi pw pn po n k i e o s :=
  ⟨⟨h.I.S.later b, h.I.K.later b, h.I.I.later b, h.I.W.later b, h.I.ne⟩, h.N.later b, h.O.later b, h.ne⟩
theorem one_lt {w : World} {b : Nat} {v : Value} (h : Var w ⟨b, 0, none⟩ v) : ∀ i ∈ [b], i < w.heap.size := fun i hi => by
  obtain rfl : i = b := List.mem_singleton.1 hi
  exact h.lt
theorem onev_lt {w : World} {b : Nat} {v u : Value} (h : Var w ⟨b, 0, none⟩ v) : ∀ x ∈ [((⟨b, 0, none⟩ : Addr), u)], x.1.block < w.heap.size := fun x hx => by
  obtain rfl : x = _ := List.mem_singleton.1 hx
  exact h.lt
theorem two_lt {w : World} {b c : Nat} {v u : Value} (h : Var w ⟨b, 0, none⟩ v) (k : Var w ⟨c, 0, none⟩ u) : ∀ i ∈ [b, c], i < w.heap.size := fun i hi => by
  rcases List.mem_cons.1 hi with rfl | hi
  · exact h.lt
  · obtain rfl : i = c := List.mem_singleton.1 hi
    exact k.lt
theorem twov_lt {w : World} {b c : Nat} {v u x y : Value} (h : Var w ⟨b, 0, none⟩ v) (k : Var w ⟨c, 0, none⟩ u) : ∀ z ∈ [((⟨b, 0, none⟩ : Addr), x), (⟨c, 0, none⟩, y)], z.1.block < w.heap.size := fun z hz => by
  rcases List.mem_cons.1 hz with rfl | hz
  · exact h.lt
  · obtain rfl : z = _ := List.mem_singleton.1 hz
    exact k.lt
/-- the inner Try -/
theorem inner_ret (ps pk pi pw : Nat) (k i : Int) (s : ByteArray) (w : World) (h : In w ps pk pi pw 1 k i s) (k0 : 0 ≤ k) (k1 : k ≤ 255) (hk : k % 3 = 0 ∨ (k % 3 = 1 ∧ i = 0)) :
    Calls Try.prog 38 (innerTry ps pk pi pw) w fun e w' => e = .returned (.int .i64 0) ∧ But [ps] w w' ∧ Vars w' [(⟨ps, 0, none⟩, .int .i64 12)] :=
  tryB_ret 60 _ [ps] _ w (one_lt h.S) (onev_lt h.S) (fun _ => by kernel_rfl) (tries2_ret ps pk pi pw k i s _ (h.alloc _) k0 k1 hk)
theorem inner_gave (ps pk pi pw : Nat) (k i : Int) (s : ByteArray) (w : World) (h : In w ps pk pi pw 1 k i s) (k0 : 0 ≤ k) (k1 : k ≤ 255) (hk : k % 3 = 1) (hi : i ≠ 0) :
    Calls Try.prog 38 (innerTry ps pk pi pw) w fun e w' => e = .returned (.int .i64 i) ∧ But [ps] w w' ∧ Vars w' [(⟨ps, 0, none⟩, .int .i64 2)] :=
  tryB_gave 60 _ i [ps] _ w (one_lt h.S) (onev_lt h.S) (fun _ => by kernel_rfl) (tries2_fail ps pk pi pw k i s _ (h.alloc _) k0 k1 hk hi)
theorem inner_word (ps pk pi pw : Nat) (k i : Int) (s : ByteArray) (w : World) (h : In w ps pk pi pw 1 k i s) (k0 : 0 ≤ k) (k1 : k ≤ 255) (hk : k % 3 = 2) :
    Calls Try.prog 38 (innerTry ps pk pi pw) w fun e w' => e = .panicked (other s :: gone s :: []) ∧ But [ps] w w' ∧ Vars w' [(⟨ps, 0, none⟩, .int .i64 2)] :=
  tryB_other 60 _ s [ps] _ w (fun _ => by kernel_rfl) (tries2_word ps pk pi pw k i s _ (h.alloc _) k0 k1 hk)
/-- what the inner Try of a function that gives no word answers, and how far its function came -/
def inE (k i : Int) : Int := if k % 3 = 0 then 0 else i
def inS (k i : Int) : Int := if k % 3 = 0 ∨ i = 0 then 12 else 2
theorem inner_any (ps pk pi pw : Nat) (k i : Int) (s : ByteArray) (w : World) (h : In w ps pk pi pw 1 k i s) (k0 : 0 ≤ k) (k1 : k ≤ 255) (hk : k % 3 ≠ 2) :
    Calls Try.prog 38 (innerTry ps pk pi pw) w fun e w' => e = .returned (.int .i64 (inE k i)) ∧ But [ps] w w' ∧ Vars w' [(⟨ps, 0, none⟩, .int .i64 (inS k i))] := by
  by_cases z : k % 3 = 0
  · rw [inE, inS, if_pos z, if_pos (.inl z)]
    exact inner_ret ps pk pi pw k i s w h k0 k1 (.inl z)
  · have z1 : k % 3 = 1 := by omega
    by_cases hi : i = 0
    · rw [inE, inS, if_neg z, if_pos (.inr hi)]
      have := inner_ret ps pk pi pw k i s w h k0 k1 (.inr ⟨z1, hi⟩)
      rw [show (Value.int IntKind.i64 i) = .int .i64 0 by rw [hi]]
      exact this
    · rw [inE, inS, if_neg z, if_neg (fun c => c.elim z hi)]
      exact inner_gave ps pk pi pw k i s w h k0 k1 z1 hi
theorem inS_range (k i : Int) : 0 ≤ inS k i ∧ inS k i ≤ 100 := by
  unfold inS
  split <;> omega
def endS (k i o : Int) : Int := if o = 0 then inS k i + 100 + 1000 else inS k i + 100
/-- the outer one, its words caught -/
theorem caught_any (ps pk pi pw pn po : Nat) (k i o : Int) (s : ByteArray) (w : World) (h : Out w ps pk pi pw pn po 0 k i 0 o s) (k0 : 0 ≤ k) (k1 : k ≤ 255) (hk : k % 3 ≠ 2) :
    Calls Try.prog 58 #[.func (.func 59) #[] (outerArgs ps pk pi pw pn po)] w fun e w' => e = .returned (.tuple #[.nilIface, .int .i64 o]) ∧ But [ps, pn] w w' ∧ Vars w' [(⟨ps, 0, none⟩, .int .i64 (endS k i o)), (⟨pn, 0, none⟩, .int .i64 (inE k i))] := by
  obtain ⟨r0, r1⟩ := inS_range k i
  refine caught_ret 59 _ o [ps, pn] _ w (two_lt h.I.S h.N) (twov_lt h.I.S h.N) fun w1 hb => ?_
  have h1 := h.later hb
  by_cases ho : o = 0
  · rw [endS, if_pos ho]
    have := tryB_ret 59 (outerArgs ps pk pi pw pn po) [ps, pn] _ w1 (two_lt h1.I.S h1.N) (twov_lt h1.I.S h1.N) (fun _ => by kernel_rfl)
      (tries1_ret ps pk pi pw pn po k i 0 o (inE k i) (inS k i) s _ (h1.later ((Below.refl _ _).alloc (Nat.le_refl _) _)) r0 r1 ho (fun w2 hI => inner_any ps pk pi pw k i s w2 hI k0 k1 hk))
    rw [ho]
    exact this
  · rw [endS, if_neg ho]
    exact tryB_gave 59 (outerArgs ps pk pi pw pn po) o [ps, pn] _ w1 (two_lt h1.I.S h1.N) (twov_lt h1.I.S h1.N) (fun _ => by kernel_rfl)
      (tries1_gave ps pk pi pw pn po k i 0 o (inE k i) (inS k i) s _ (h1.later ((Below.refl _ _).alloc (Nat.le_refl _) _)) r0 r1 ho (fun w2 hI => inner_any ps pk pi pw k i s w2 hI k0 k1 hk))
theorem caught_two (ps pk pi pw pn po : Nat) (k i o : Int) (s : ByteArray) (w : World) (h : Out w ps pk pi pw pn po 0 k i 0 o s) (k0 : 0 ≤ k) (k1 : k ≤ 255) (hk : k % 3 = 2) :
    Calls Try.prog 58 #[.func (.func 59) #[] (outerArgs ps pk pi pw pn po)] w fun e w' => e = .returned (.tuple #[.iface 9 (.string s), .int .i64 0]) ∧ But [ps, pn] w w' ∧ Vars w' [(⟨ps, 0, none⟩, .int .i64 2)] := by
  refine caught_word 59 _ s [ps, pn] _ w (two_lt h.I.S h.N) (onev_lt h.I.S) fun w1 hb => ?_
  have h1 := h.later hb
  refine (try_more 59 (outerArgs ps pk pi pw pn po) s [gone s] w1 (fun w' => But [ps, pn] w1 w' ∧ Vars w' [(⟨ps, 0, none⟩, .int .i64 2)]) (fun _ => by kernel_rfl) ?_)
  refine (tries1_word ps pk pi pw pn po k i 0 o s _ (h1.later ((Below.refl _ _).alloc (Nat.le_refl _) _)) (fun w2 hI => inner_word ps pk pi pw k i s w2 hI k0 k1 hk)).mono ?_
  rintro e w' ⟨rfl, hb', hv⟩
  exact ⟨rfl, ((But.refl _ _).alloc _).trans hb', hv⟩
end Go.Proofs.Ytkohefgendcofaa
