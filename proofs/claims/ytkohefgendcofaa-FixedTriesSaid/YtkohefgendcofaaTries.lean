/- The closures of FixedTries. -/
import Derived.Test.YtkohefgendcofaaSpk4
import Derived.WalkKit
import Derived.WalkSpells
import Derived.WalkLawsBesides
import Derived.Handy
import Derived.Lib.Hide
import Derived.Deep.QuietTactic
import Derived.BigQuiet
import Derived.LoopTactic
import Derived.Defers
import Derived.Recover
import Derived.Deep.RegionHeld3
import Derived.Deep.RegionWith
import Derived.Outline
import Derived.Deep.DeepCutAuto
namespace Go.Proofs.Ytkohefgendcofaa
open Go.RowKit
set_option linter.unusedVariables false
set_option linter.unusedSimpArgs false
set_option maxRecDepth 100000
/-- a word's panic, recovered -/
def gone (s : ByteArray) : PanicEntry := { v := .iface 9 (.string s), recovered := true }
theorem tryD_more (p : Addr) (s : ByteArray) (older : List PanicEntry) (w : World) :
    CallsD Try.prog 82 #[.pointer (some p)] (.panicking (other s :: older)) w fun r u' w' =>
      r = .panicked [other s] ∧ u' = .panicking (gone s :: older) ∧ w' = w := by
  have hta : ∀ w : World, (Instr.typeAssert (.iface 9 (.string s)) 20 105 true).run Try.prog w = .ok (.tuple #[.agg #[.int .i64 0], .bool false]) w := fun _ => by kernel_rfl
  refine callsD_of_wpS Try.func82 rfl fun c₀ cs hu => ?_
  apply wpS_seq
  apply wpS_region
  simp [wpOpsS, go_sem, recoverD, hu, Try.ntmps82, Exit.thenS, other]
  refine wpS_of_wp ?_
  rw [show (#[Value.pointer (some p)] ++ (Array.replicate 11 undef).setIfInBounds 3 (Value.iface 9 (.string s))) = #[Value.pointer (some p), undef, undef, undef, (Value.iface 9 (.string s)), undef, undef, undef, undef, undef, undef, undef] from rfl]
  go_wp2
  exact ⟨rfl, _, rfl, rfl, rfl, rfl⟩
theorem try_more (F : FuncId) (cap : Array Value) (s : ByteArray) (older : List PanicEntry) (w : World) (Q : World → Prop) (hcf : ∀ w : World, (callFunc F cap).run Try.prog w = .ok (.enter F cap) w)
    (hF : Calls Try.prog F cap (w.alloc (.cells #[.int .i64 0] 43)) fun e w' => e = .panicked (other s :: older) ∧ Q w') :
    Calls Try.prog 38 #[.func (.func F) #[] cap] w fun e w' => e = .panicked (other s :: gone s :: older) ∧ Q w' := by
  have hmf : ∀ (fn : Fn) (first cap : Array Value) (w : World), (Instr.makeFunc fn first cap).run Try.prog w = .ok (.func fn first cap) w := fun _ _ _ _ => rfl
  have hne : ∀ w : World, (binOp BinOp.eql 1 (.func (.func F) #[] cap) .nilFunc).run Try.prog w = .ok (.bool false) w := fun _ => by kernel_rfl
  have HF := Lib.hid hF
  clear hF
  go_enter_defers Try.func38, Try.ntmps38
  go_wp2_with fail
  refine HF.out.mono ?_
  rintro e w1 ⟨rfl, h1⟩
  have H1 := Lib.hid h1
  clear h1
  refine leaves_cons (f := 82) (args := #[.pointer (some ⟨w.heap.size, 0, none⟩)]) (by simp) (by simp [go_sem]) ?_
  refine (tryD_more ⟨w.heap.size, 0, none⟩ s older _).mono ?_
  rintro e u' w'' ⟨rfl, rfl, rfl⟩
  exact ⟨rfl, H1.out⟩
theorem caughtD_idle (p : Addr) (u : Value) (w : World) (h : Var w p u) :
    CallsD Try.prog 86 #[.pointer (some p)] .returning w fun e u' w' => e = .returned (.tuple #[]) ∧ u' = .returning ∧ w' = w.setCell p .nilIface := by
  obtain ⟨hc, hz⟩ := h
  refine callsD_of_wpS Try.func86 rfl fun c₀ cs hu => ?_
  apply wpS_region
  simp [wpOpsS, go_sem, recoverD, hu, Try.ntmps86, Exit.thenS, hc, hz]
  refine ⟨rfl, .returning, by rw [← hu], .tuple #[], by simp [results, Try.results86], rfl, rfl, rfl⟩
theorem caughtD_more (p : Addr) (u : Value) (s : ByteArray) (older : List PanicEntry) (w : World) (h : Var w p u) :
    CallsD Try.prog 86 #[.pointer (some p)] (.panicking (other s :: older)) w fun e u' w' => e = .returned (.tuple #[]) ∧ u' = .panicking (gone s :: older) ∧ w' = w.setCell p (.iface 9 (.string s)) := by
  obtain ⟨hc, hz⟩ := h
  refine callsD_of_wpS Try.func86 rfl fun c₀ cs hu => ?_
  apply wpS_region
  simp [wpOpsS, go_sem, recoverD, hu, Try.ntmps86, Exit.thenS, hc, hz, other]
  exact ⟨rfl, _, rfl, .tuple #[], by simp [results, Try.results86], rfl, rfl, rfl⟩
/-- what 'caught' hands on where the function returns -/
theorem caught_ret (F : FuncId) (cap : Array Value) (er : Int) (bs : List Nat) (vs : List (Addr × Value)) (w : World) (hbs : ∀ i ∈ bs, i < w.heap.size) (hvs : ∀ x ∈ vs, x.1.block < w.heap.size)
    (hF : ∀ w1 : World, Below w.heap.size w w1 → Calls Try.prog 38 #[.func (.func F) #[] cap] w1 fun e w' => e = .returned (.int .i64 er) ∧ But bs w1 w' ∧ Vars w' vs) :
    Calls Try.prog 58 #[.func (.func F) #[] cap] w fun e w' => e = .returned (.tuple #[.nilIface, .int .i64 er]) ∧ But bs w w' ∧ Vars w' vs := by
  have hmf : ∀ (fn : Fn) (first cap : Array Value) (w : World), (Instr.makeFunc fn first cap).run Try.prog w = .ok (.func fn first cap) w := fun _ _ _ _ => rfl
  have HF := Lib.hid hF
  have ns : w.heap.size ∉ bs := fun m => by have := hbs _ m; omega
  clear hF
  go_enter_defers Try.func58, Try.ntmps58
  go_wp2_with fail
  refine (HF.out _ ((Below.refl _ _).alloc (Nat.le_refl _) _)).mono ?_
  rintro e w1 ⟨rfl, hb, hv⟩
  have X1 := (Var.new w .nilIface 20).but hb ns
  have XH := Lib.hid X1
  have HB := Lib.hid (((But.refl bs w).alloc (.cells #[.nilIface] 20)).trans hb)
  have HV := Lib.hid hv
  obtain ⟨c1, z1⟩ := X1
  clear hb hv
  go_wp2
  refine leaves_cons (f := 86) (args := #[.pointer (some ⟨w.heap.size, 0, none⟩)]) (by simp) (by simp [go_sem]) ?_
  refine (caughtD_idle ⟨w.heap.size, 0, none⟩ .nilIface _ (XH.out.set _)).mono ?_
  rintro e u' w'' ⟨rfl, rfl, rfl⟩
  have hlt := XH.out.lt
  refine ⟨.tuple #[.nilIface, .int .i64 er], by simp [results, Try.results58, go_sem, c1], rfl, (HB.out.setCell (.inr (Nat.le_refl _)) _).setCell (.inr (Nat.le_refl _)) _, ?_⟩
  have o1 := HV.out.other (q := ⟨w.heap.size, 0, none⟩) (fun x hx e => by have := hvs x hx; rw [← e] at this; simp at this) .nilIface
  exact o1.other (fun x hx e => by have := hvs x hx; rw [← e] at this; simp at this) _
theorem caught_word (F : FuncId) (cap : Array Value) (s : ByteArray) (bs : List Nat) (vs : List (Addr × Value)) (w : World) (hbs : ∀ i ∈ bs, i < w.heap.size) (hvs : ∀ x ∈ vs, x.1.block < w.heap.size)
    (hF : ∀ w1 : World, Below w.heap.size w w1 → Calls Try.prog 38 #[.func (.func F) #[] cap] w1 fun e w' => e = .panicked (other s :: gone s :: gone s :: []) ∧ But bs w1 w' ∧ Vars w' vs) :
    Calls Try.prog 58 #[.func (.func F) #[] cap] w fun e w' => e = .returned (.tuple #[.iface 9 (.string s), .int .i64 0]) ∧ But bs w w' ∧ Vars w' vs := by
  have hmf : ∀ (fn : Fn) (first cap : Array Value) (w : World), (Instr.makeFunc fn first cap).run Try.prog w = .ok (.func fn first cap) w := fun _ _ _ _ => rfl
  have HF := Lib.hid hF
  have ns : w.heap.size ∉ bs := fun m => by have := hbs _ m; omega
  clear hF
  go_enter_defers Try.func58, Try.ntmps58
  go_wp2_with fail
  refine (HF.out _ ((Below.refl _ _).alloc (Nat.le_refl _) _)).mono ?_
  rintro e w1 ⟨rfl, hb, hv⟩
  have X1 := (Var.new w .nilIface 20).but hb ns
  have XH := Lib.hid X1
  have HB := Lib.hid (((But.refl bs w).alloc (.cells #[.nilIface] 20)).trans hb)
  have HV := Lib.hid hv
  obtain ⟨c1, z1⟩ := X1
  clear hb hv
  refine leaves_cons (f := 86) (args := #[.pointer (some ⟨w.heap.size, 0, none⟩)]) (by simp) (by simp [go_sem]) ?_
  refine (caughtD_more ⟨w.heap.size, 0, none⟩ .nilIface s _ _ XH.out).mono ?_
  rintro e u' w'' ⟨rfl, rfl, rfl⟩
  have hlt := XH.out.lt
  refine ⟨.tuple #[.iface 9 (.string s), .int .i64 0], by simp [results, Try.results58, go_sem, c1], rfl, HB.out.setCell (.inr (Nat.le_refl _)) _, ?_⟩
  exact HV.out.other (fun x hx e => by have := hvs x hx; rw [← e] at this; simp at this) _
/-- the inner function's variables -/
structure In (w : World) (ps pk pi pw : Nat) (n k i : Int) (s : ByteArray) : Prop where
  S : Var w ⟨ps, 0, none⟩ (.int .i64 n)
  K : Var w ⟨pk, 0, none⟩ (.int .u8 k)
  I : Var w ⟨pi, 0, none⟩ (.int .i64 i)
  W : Var w ⟨pw, 0, none⟩ (.string s)
  ne : ps ≠ pk ∧ ps ≠ pi ∧ ps ≠ pw
theorem vars_one {w : World} {b : Nat} {v : Value} (h : Var w ⟨b, 0, none⟩ v) : Vars w [(⟨b, 0, none⟩, v)] := fun x hx => by
  obtain rfl : x = _ := List.mem_singleton.1 hx
  exact h
theorem tries2_ret (ps pk pi pw : Nat) (k i : Int) (s : ByteArray) (w : World) (h : In w ps pk pi pw 1 k i s) (k0 : 0 ≤ k) (k1 : k ≤ 255) (hk : k % 3 = 0 ∨ (k % 3 = 1 ∧ i = 0)) :
    Calls Try.prog 60 #[.pointer (some ⟨ps, 0, none⟩), .pointer (some ⟨pk, 0, none⟩), .pointer (some ⟨pi, 0, none⟩), .pointer (some ⟨pw, 0, none⟩)] w fun e w' => e = .returned (.tuple #[]) ∧ But [ps] w w' ∧ Vars w' [(⟨ps, 0, none⟩, .int .i64 12)] := by
  have HS := Lib.hid h.S
  obtain ⟨⟨s0, s1⟩, ⟨c0, _⟩, ⟨i0, _⟩, ⟨d0, _⟩, n1, n2, n3⟩ := h
  rcases hk with hk | ⟨hk, rfl⟩
  · have e1 : (k % 3 == 1) = false := by rw [hk]; rfl
    have e2 : (k % 3 == 2) = false := by rw [hk]; rfl
    clear hk
    go_enter Try.func60, Try.ntmps60
    go_wp2_with fail
    go_end0
    exact ⟨rfl, ((But.refl _ _).setCell (.inl (by simp)) _).setCell (.inl (by simp)) _, vars_one ((HS.out.set _).set _)⟩
  · have e1 : (k % 3 == 1) = true := by rw [hk]; rfl
    clear hk
    go_enter Try.func60, Try.ntmps60
    go_wp2_with fail
    refine (fail_ok _).mono ?_
    rintro e w' ⟨rfl, rfl⟩
    go_wp2_with fail
    go_end0
    exact ⟨rfl, ((But.refl _ _).setCell (.inl (by simp)) _).setCell (.inl (by simp)) _, vars_one ((HS.out.set _).set _)⟩
theorem tries2_fail (ps pk pi pw : Nat) (k i : Int) (s : ByteArray) (w : World) (h : In w ps pk pi pw 1 k i s) (k0 : 0 ≤ k) (k1 : k ≤ 255) (hk : k % 3 = 1) (hi : i ≠ 0) :
    Calls Try.prog 60 #[.pointer (some ⟨ps, 0, none⟩), .pointer (some ⟨pk, 0, none⟩), .pointer (some ⟨pi, 0, none⟩), .pointer (some ⟨pw, 0, none⟩)] w fun e w' => e = .panicked (gave i) ∧ But [ps] w w' ∧ Vars w' [(⟨ps, 0, none⟩, .int .i64 2)] := by
  have HS := Lib.hid h.S
  obtain ⟨⟨s0, s1⟩, ⟨c0, _⟩, ⟨i0, _⟩, ⟨d0, _⟩, n1, n2, n3⟩ := h
  have e1 : (k % 3 == 1) = true := by rw [hk]; rfl
  have HI := Lib.hid hi
  clear hk hi
  go_enter Try.func60, Try.ntmps60
  go_wp2_with fail
  refine (fail_no i HI.out _).mono ?_
  rintro e w' ⟨rfl, rfl⟩
  exact ⟨rfl, rfl, (But.refl _ _).setCell (.inl (by simp)) _, vars_one (HS.out.set _)⟩
theorem tries2_word (ps pk pi pw : Nat) (k i : Int) (s : ByteArray) (w : World) (h : In w ps pk pi pw 1 k i s) (k0 : 0 ≤ k) (k1 : k ≤ 255) (hk : k % 3 = 2) :
    Calls Try.prog 60 #[.pointer (some ⟨ps, 0, none⟩), .pointer (some ⟨pk, 0, none⟩), .pointer (some ⟨pi, 0, none⟩), .pointer (some ⟨pw, 0, none⟩)] w fun e w' => e = .panicked [other s] ∧ But [ps] w w' ∧ Vars w' [(⟨ps, 0, none⟩, .int .i64 2)] := by
  have HS := Lib.hid h.S
  obtain ⟨⟨s0, s1⟩, ⟨c0, _⟩, ⟨i0, _⟩, ⟨d0, _⟩, n1, n2, n3⟩ := h
  have e1 : (k % 3 == 1) = false := by rw [hk]; rfl
  have e2 : (k % 3 == 2) = true := by rw [hk]; rfl
  clear hk
  go_enter Try.func60, Try.ntmps60
  go_wp2_with fail
  exact ⟨rfl, rfl, (But.refl _ _).setCell (.inl (by simp)) _, vars_one (HS.out.set _)⟩
/-- the outer function's variables -/
structure Out (w : World) (ps pk pi pw pn po : Nat) (n k i e o : Int) (s : ByteArray) : Prop where
  I : In w ps pk pi pw n k i s
  N : Var w ⟨pn, 0, none⟩ (.int .i64 e)
  O : Var w ⟨po, 0, none⟩ (.int .i64 o)
  ne : pn ≠ ps ∧ po ≠ ps ∧ pn ≠ po
def innerTry (ps pk pi pw : Nat) : Array Value := #[.func (.func 60) #[] #[.pointer (some ⟨ps, 0, none⟩), .pointer (some ⟨pk, 0, none⟩), .pointer (some ⟨pi, 0, none⟩), .pointer (some ⟨pw, 0, none⟩)]]
theorem In.step {w : World} {ps pk pi pw : Nat} {n k i : Int} {s : ByteArray} (h : In w ps pk pi pw n k i s) (m : Int) : In (w.setCell ⟨ps, 0, none⟩ (.int .i64 m)) ps pk pi pw m k i s := by
  obtain ⟨n1, n2, n3⟩ := h.ne
  exact ⟨h.S.set _, h.K.other (fun e => n1 (by injection e)) _, h.I.other (fun e => n2 (by injection e)) _, h.W.other (fun e => n3 (by injection e)) _, h.ne⟩
theorem vars_two {w : World} {b c : Nat} {v u : Value} (h : Var w ⟨b, 0, none⟩ v) (k : Var w ⟨c, 0, none⟩ u) : Vars w [(⟨b, 0, none⟩, v), (⟨c, 0, none⟩, u)] := fun x hx => by
  rcases List.mem_cons.1 hx with rfl | hx
  · exact h
  · obtain rfl : x = _ := List.mem_singleton.1 hx
    exact k
def outerArgs (ps pk pi pw pn po : Nat) : Array Value := #[.pointer (some ⟨ps, 0, none⟩), .pointer (some ⟨pk, 0, none⟩), .pointer (some ⟨pi, 0, none⟩), .pointer (some ⟨pw, 0, none⟩), .pointer (some ⟨pn, 0, none⟩), .pointer (some ⟨po, 0, none⟩)]
set_option maxHeartbeats 1000000 in
theorem tries1_ret (ps pk pi pw pn po : Nat) (k i e0 o er st : Int) (s : ByteArray) (w : World) (h : Out w ps pk pi pw pn po 0 k i e0 o s) (t0 : 0 ≤ st) (t1 : st ≤ 100) (ho : o = 0)
    (hT : ∀ w1, In w1 ps pk pi pw 1 k i s → Calls Try.prog 38 (innerTry ps pk pi pw) w1 fun e w' => e = .returned (.int .i64 er) ∧ But [ps] w1 w' ∧ Vars w' [(⟨ps, 0, none⟩, .int .i64 st)]) :
    Calls Try.prog 59 (outerArgs ps pk pi pw pn po) w fun e w' => e = .returned (.tuple #[]) ∧ But [ps, pn] w w' ∧ Vars w' [(⟨ps, 0, none⟩, .int .i64 (st + 100 + 1000)), (⟨pn, 0, none⟩, .int .i64 er)] := by
  have hmf : ∀ (fn : Fn) (first cap : Array Value) (w : World), (Instr.makeFunc fn first cap).run Try.prog w = .ok (.func fn first cap) w := fun _ _ _ _ => rfl
  subst ho
  obtain ⟨m1, m2, m3⟩ := h.ne
  have HT := Lib.hid (hT _ (h.I.step 1))
  have ON := Lib.hid (h.N.other (q := ⟨ps, 0, none⟩) (fun e => m1 (by injection e with e; exact e.symm)) (.int .i64 1))
  have OO := Lib.hid (h.O.other (q := ⟨ps, 0, none⟩) (fun e => m2 (by injection e with e; exact e.symm)) (.int .i64 1))
  obtain ⟨s0, s1⟩ := h.I.S
  have HB := Lib.hid (((But.refl [ps, pn] w).setCell (p := ⟨ps, 0, none⟩) (.inl (by simp)) (.int .i64 1)))
  clear h hT
  unfold innerTry at HT
  unfold outerArgs
  go_enter Try.func59, Try.ntmps59
  go_wp2_with fail
  refine HT.out.mono ?_
  rintro e w2 ⟨rfl, hb2, hv2⟩
  have S2 := hv2 _ (List.mem_singleton.2 rfl)
  have N2 := ON.out.but hb2 (by simpa using m1)
  have O2 := OO.out.but hb2 (by simpa using m2)
  have B2 := Lib.hid (HB.out.trans (hb2.mono (cs := [ps, pn]) (fun x hx => by simp at hx ⊢; exact .inl hx)))
  have VS := Lib.hid S2
  have VN := Lib.hid N2
  clear hb2 hv2 HT ON OO s0 s1 HB
  obtain ⟨s0, s1⟩ := S2
  obtain ⟨n0, n1⟩ := N2
  obtain ⟨o0, o1⟩ := O2
  have m1' : ¬ ps = pn := fun e => m1 e.symm
  have m2' : ¬ ps = po := fun e => m2 e.symm
  have mm1 : ¬ pn = ps := m1
  have mm2 : ¬ po = ps := m2
  have mm3 : ¬ pn = po := m3
  have mm4 : ¬ po = pn := fun e => m3 e.symm
  clear m1 m2 m3
  go_wp2_with fail
  refine (fail_ok _).mono ?_
  rintro e w' ⟨rfl, rfl⟩
  go_wp2_with fail
  go_end0
  refine ⟨rfl, ((B2.out.setCell (.inl (by simp)) _).setCell (.inl (by simp)) _).setCell (.inl (by simp)) _, vars_two ?_ ?_⟩
  · exact ((VS.out.other (fun e => mm1 (by injection e)) _).set _).set _
  · exact ((VN.out.set _).other (fun e => m1' (by injection e)) _).other (fun e => m1' (by injection e)) _
set_option maxHeartbeats 1000000 in
theorem tries1_gave (ps pk pi pw pn po : Nat) (k i e0 o er st : Int) (s : ByteArray) (w : World) (h : Out w ps pk pi pw pn po 0 k i e0 o s) (t0 : 0 ≤ st) (t1 : st ≤ 100) (ho : o ≠ 0)
    (hT : ∀ w1, In w1 ps pk pi pw 1 k i s → Calls Try.prog 38 (innerTry ps pk pi pw) w1 fun e w' => e = .returned (.int .i64 er) ∧ But [ps] w1 w' ∧ Vars w' [(⟨ps, 0, none⟩, .int .i64 st)]) :
    Calls Try.prog 59 (outerArgs ps pk pi pw pn po) w fun e w' => e = .panicked (gave o) ∧ But [ps, pn] w w' ∧ Vars w' [(⟨ps, 0, none⟩, .int .i64 (st + 100)), (⟨pn, 0, none⟩, .int .i64 er)] := by
  have hmf : ∀ (fn : Fn) (first cap : Array Value) (w : World), (Instr.makeFunc fn first cap).run Try.prog w = .ok (.func fn first cap) w := fun _ _ _ _ => rfl
  have HO := Lib.hid ho
  clear ho
  obtain ⟨m1, m2, m3⟩ := h.ne
  have HT := Lib.hid (hT _ (h.I.step 1))
  have ON := Lib.hid (h.N.other (q := ⟨ps, 0, none⟩) (fun e => m1 (by injection e with e; exact e.symm)) (.int .i64 1))
  have OO := Lib.hid (h.O.other (q := ⟨ps, 0, none⟩) (fun e => m2 (by injection e with e; exact e.symm)) (.int .i64 1))
  obtain ⟨s0, s1⟩ := h.I.S
  have HB := Lib.hid (((But.refl [ps, pn] w).setCell (p := ⟨ps, 0, none⟩) (.inl (by simp)) (.int .i64 1)))
  clear h hT
  unfold innerTry at HT
  unfold outerArgs
  go_enter Try.func59, Try.ntmps59
  go_wp2_with fail
  refine HT.out.mono ?_
  rintro e w2 ⟨rfl, hb2, hv2⟩
  have S2 := hv2 _ (List.mem_singleton.2 rfl)
  have N2 := ON.out.but hb2 (by simpa using m1)
  have O2 := OO.out.but hb2 (by simpa using m2)
  have B2 := Lib.hid (HB.out.trans (hb2.mono (cs := [ps, pn]) (fun x hx => by simp at hx ⊢; exact .inl hx)))
  have VS := Lib.hid S2
  have VN := Lib.hid N2
  clear hb2 hv2 HT ON OO s0 s1 HB
  obtain ⟨s0, s1⟩ := S2
  obtain ⟨n0, n1⟩ := N2
  obtain ⟨o0, o1⟩ := O2
  have m1' : ¬ ps = pn := fun e => m1 e.symm
  have m2' : ¬ ps = po := fun e => m2 e.symm
  have mm1 : ¬ pn = ps := m1
  have mm2 : ¬ po = ps := m2
  have mm3 : ¬ pn = po := m3
  have mm4 : ¬ po = pn := fun e => m3 e.symm
  clear m1 m2 m3
  go_wp2_with fail
  refine (fail_no o HO.out _).mono ?_
  rintro e w' ⟨rfl, rfl⟩
  refine ⟨rfl, rfl, (B2.out.setCell (.inl (by simp)) _).setCell (.inl (by simp)) _, vars_two ?_ ?_⟩
  · exact (VS.out.other (fun e => mm1 (by injection e)) _).set _
  · exact (VN.out.set _).other (fun e => m1' (by injection e)) _
set_option maxHeartbeats 1000000 in
theorem tries1_word (ps pk pi pw pn po : Nat) (k i e0 o : Int) (s : ByteArray) (w : World) (h : Out w ps pk pi pw pn po 0 k i e0 o s)
    (hT : ∀ w1, In w1 ps pk pi pw 1 k i s → Calls Try.prog 38 (innerTry ps pk pi pw) w1 fun e w' => e = .panicked (other s :: gone s :: []) ∧ But [ps] w1 w' ∧ Vars w' [(⟨ps, 0, none⟩, .int .i64 2)]) :
    Calls Try.prog 59 (outerArgs ps pk pi pw pn po) w fun e w' => e = .panicked (other s :: gone s :: []) ∧ But [ps, pn] w w' ∧ Vars w' [(⟨ps, 0, none⟩, .int .i64 2)] := by
  have hmf : ∀ (fn : Fn) (first cap : Array Value) (w : World), (Instr.makeFunc fn first cap).run Try.prog w = .ok (.func fn first cap) w := fun _ _ _ _ => rfl
  have HT := Lib.hid (hT _ (h.I.step 1))
  obtain ⟨s0, s1⟩ := h.I.S
  have HB := Lib.hid (((But.refl [ps, pn] w).setCell (p := ⟨ps, 0, none⟩) (.inl (by simp)) (.int .i64 1)))
  clear h hT
  unfold innerTry at HT
  unfold outerArgs
  go_enter Try.func59, Try.ntmps59
  go_wp2_with fail
  refine HT.out.mono ?_
  rintro e w2 ⟨rfl, hb2, hv2⟩
  exact ⟨rfl, rfl, HB.out.trans (hb2.mono (cs := [ps, pn]) (fun x hx => by simp at hx ⊢; exact .inl hx)), hv2⟩
end Go.Proofs.Ytkohefgendcofaa
