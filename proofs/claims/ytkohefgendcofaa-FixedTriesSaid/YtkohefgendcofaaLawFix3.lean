/- The walk of FixedTries. -/
import Derived.Test.YtkohefgendcofaaTriesB
import Derived.WalkKit
import Derived.WalkSpells
import Derived.WalkLawsBesides
import Derived.Handy
import Derived.Lib.Hide
import Derived.LaidEql
import Derived.Deep.QuietTactic
import Derived.BigQuiet
import Derived.LoopTactic
import Derived.Deep.RegionHeld3
import Derived.Deep.RegionWith
import Derived.Outline
import Derived.Deep.DeepCutAuto
namespace Go.Proofs.Ytkohefgendcofaa
open Go.RowKit
set_option linter.unusedVariables false
set_option linter.unusedSimpArgs false
set_option maxRecDepth 100000
/-- the four boxes of the arguments -/
structure Four (w wr : World) (po pi pw pk : Nat) (o i : Int) (s : ByteArray) (k : Int) : Prop where
  O : Var wr ⟨po, 0, none⟩ (.int .i64 o)
  I : Var wr ⟨pi, 0, none⟩ (.int .i64 i)
  W : Var wr ⟨pw, 0, none⟩ (.string s)
  K : Var wr ⟨pk, 0, none⟩ (.int .u8 k)
  lo : w.heap.size < po ∧ w.heap.size < pi ∧ w.heap.size < pw ∧ w.heap.size < pk
  ne : po ≠ pi ∧ po ≠ pw ∧ po ≠ pk ∧ pi ≠ pw ∧ pi ≠ pk ∧ pw ≠ pk
  bel : Below w.heap.size w wr
set_option maxHeartbeats 8000000 in
theorem law_tries (o i : Int) (s : ByteArray) (k : Int) (o0 : -9223372036854775808 ≤ o) (o1 : o ≤ 9223372036854775807) (i0 : -9223372036854775808 ≤ i) (i1 : i ≤ 9223372036854775807) (k0 : 0 ≤ k) (k1 : k ≤ 255) (w : World) :
    Calls Try.prog 11 #[.agg #[.int .i64 o, .int .i64 i, .string s, .int .u8 k]] w fun e w' => e = .returned (.bool true) ∧ Below w.heap.size w w' := by
  go_enter Try.func11, Try.ntmps11
  go_wp2_with fail
  refine (speaks4_any _).mono ?_
  rintro e w1 ⟨rfl, hb1⟩
  have c0 : w1.cell? ⟨w.heap.size, 0, none⟩ = some (.int .i64 o) := cell_later hb1 (by simp [go_sem])
  have c1 : w1.cell? ⟨w.heap.size, 1, none⟩ = some (.int .i64 i) := cell_later hb1 (by simp [go_sem])
  have c2 : w1.cell? ⟨w.heap.size, 2, none⟩ = some (.string s) := cell_later hb1 (by simp [go_sem])
  have c3 : w1.cell? ⟨w.heap.size, 3, none⟩ = some (.int .u8 k) := cell_later hb1 (by simp [go_sem])
  have K1 := Lib.hid (((Below.refl w.heap.size w).alloc (Nat.le_refl _) _).trans (hb1.mono (by simp)))
  have z1 := hb1.size
  simp only [World.size_alloc] at z1
  have n0 : w.heap.size < w1.heap.size := by omega
  have n1 : w.heap.size < w1.heap.size + 1 := by omega
  have n2 : w.heap.size < w1.heap.size + 1 + 1 := by omega
  have n3 : w.heap.size < w1.heap.size + 1 + 1 + 1 := by omega
  have e0 := World.new_ne w1 _ c0
  clear hb1
  go_upto_region 3 with fail
  go_cut [3, 4, 5, 6] (fun s3 s4 s5 s6 wx => ∃ po pi pw pk : Nat, s3 = .pointer (some ⟨po, 0, none⟩) ∧ s4 = .pointer (some ⟨pi, 0, none⟩) ∧ s5 = .pointer (some ⟨pw, 0, none⟩) ∧ s6 = .pointer (some ⟨pk, 0, none⟩) ∧ Hid (Four w wx po pi pw pk o i s k))
  case first =>
    go_region_held3 (fun w' => w'.cell? ⟨w.heap.size, 0, none⟩ = some (.int .i64 o) ∧ w'.cell? ⟨w.heap.size, 1, none⟩ = some (.int .i64 i) ∧ w'.cell? ⟨w.heap.size, 2, none⟩ = some (.string s) ∧ w'.cell? ⟨w.heap.size, 3, none⟩ = some (.int .u8 k)) (simp [go_sem, World.cell?_alloc_past, *]) (fail)
    all_goals
      go_wp2_with fail
      go_meet
      refine ⟨_, _, _, _, rfl, rfl, rfl, rfl, Lib.hid ⟨⟨by simp [go_sem], by simp [go_sem]⟩, ⟨by simp [go_sem], by simp [go_sem]⟩, ⟨by simp [go_sem], by simp [go_sem]⟩, ⟨by simp [go_sem], by simp [go_sem]⟩, by omega, by omega, ?_⟩⟩
      have hb := K1.out
      repeat' (first | exact hb | (with_reducible refine Below.drew ?_) | (with_reducible refine Below.alloc ?_ ?_ _) | (with_reducible refine Below.setCell ?_ ?_ _) | go_size)
  case rest =>
    obtain ⟨po, pi, pw, pk, rfl, rfl, rfl, rfl, H4⟩ := hcut
    clear c0 c1 c2 c3 K1 z1 n0 n1 n2 n3 e0
    go_wp2_with fail
    have HR : Hid (Out ((wc.alloc (.cells #[.int .i64 0] 3)).alloc (.cells #[.int .i64 0] 43)) wc.heap.size pk pi pw (wc.heap.size + 1) po 0 k i 0 o s) := by
      obtain ⟨vo, vi, vw, vk, l, n, b⟩ := H4.out
      have l0 := vo.lt
      have l1 := vi.lt
      have l2 := vw.lt
      have l3 := vk.lt
      simp only at l0 l1 l2 l3
      have vn := Var.new (wc.alloc (.cells #[.int .i64 0] 3)) (.int .i64 0) 43
      rw [World.size_alloc] at vn
      exact Lib.hid ⟨⟨(Var.new wc _ _).alloc _, (vk.alloc _).alloc _, (vi.alloc _).alloc _, (vw.alloc _).alloc _, by omega, by omega, by omega⟩, vn, (vo.alloc _).alloc _, by omega, by omega, by omega⟩
    have KO := H4.out.O
    have KI := H4.out.I
    have KW := H4.out.W
    have KK := H4.out.K
    have lo := KO.lt
    have li := KI.lt
    have lw := KW.lt
    have lk := KK.lt
    simp only at lo li lw lk
    have HB : Hid (Below w.heap.size w ((wc.alloc (.cells #[.int .i64 0] 3)).alloc (.cells #[.int .i64 0] 43))) := by
      have b := H4.out.bel
      have z := b.size
      exact Lib.hid ((b.alloc (by omega) _).alloc (by rw [World.size_alloc]; omega) _)
    have HL : Hid (w.heap.size ≤ wc.heap.size) := Lib.hid H4.out.bel.size
    by_cases hk : k % 3 = 2
    · refine (caught_two wc.heap.size pk pi pw (wc.heap.size + 1) po k i o s _ HR.out k0 k1 hk).mono ?_
      rintro e w2 ⟨rfl, hb2, hv2⟩
      have cs := (hv2 _ (List.mem_singleton.2 rfl)).c
      have ck := (((KK.alloc (.cells #[.int .i64 0] 3)).alloc (.cells #[.int .i64 0] 43)).but hb2 (by simp; omega)).c
      have cw := (((KW.alloc (.cells #[.int .i64 0] 3)).alloc (.cells #[.int .i64 0] 43)).but hb2 (by simp; omega)).c
      have BF := Lib.hid (But.below HB.out hb2 (by rw [World.size_alloc, World.size_alloc]; have := HL.out; omega) (by simp; have := HL.out; omega))
      have e1 : (k % 3 == 2) = true := by rw [hk]; rfl
      have e2 := eql_word s
      clear hb2 hv2 HR HB HL KO KI KW KK H4 hk
      simp only at cs ck cw
      go_wp2_with fail
      go_returns
      exact ⟨rfl, BF.out⟩
    · refine (caught_any wc.heap.size pk pi pw (wc.heap.size + 1) po k i o s _ HR.out k0 k1 hk).mono ?_
      rintro e w2 ⟨rfl, hb2, hv2⟩
      have cs := (hv2 _ (List.mem_cons_self ..)).c
      have cn := (hv2 _ (List.mem_cons_of_mem _ (List.mem_singleton.2 rfl))).c
      have ck := (((KK.alloc (.cells #[.int .i64 0] 3)).alloc (.cells #[.int .i64 0] 43)).but hb2 (by simp; omega)).c
      have ci := (((KI.alloc (.cells #[.int .i64 0] 3)).alloc (.cells #[.int .i64 0] 43)).but hb2 (by simp; omega)).c
      have co := (((KO.alloc (.cells #[.int .i64 0] 3)).alloc (.cells #[.int .i64 0] 43)).but hb2 (by simp; omega)).c
      have BF := Lib.hid (But.below HB.out hb2 (by rw [World.size_alloc, World.size_alloc]; have := HL.out; omega) (by simp; have := HL.out; omega))
      have LF : Hid (w.heap.size ≤ w2.heap.size) := Lib.hid BF.out.size
      have e1 : (k % 3 == 2) = false := by simp; omega
      have hnil : ∀ w : World, (binOp BinOp.eql 20 .nilIface .nilIface).run Try.prog w = .ok (.bool true) w := fun _ => by kernel_rfl
      simp only at cs cn ck ci co
      clear hb2 hv2 HR HB HL KO KI KW KK H4
      by_cases z : k % 3 = 0
      · have hE : inE k i = 0 := if_pos z
        have hS : inS k i = 12 := if_pos (.inl z)
        have e2 : (k % 3 == 0) = true := by rw [z]; rfl
        have e3 : (k % 3 == 1) = false := by rw [z]; rfl
        by_cases ho : o = 0
        · rw [endS, if_pos ho, hS] at cs
          rw [hE] at cn
          have e4 : (o == 0) = true := by rw [ho]; rfl
          clear hE hS z ho hk
          go_wp2_with fail
          refine (try_nil _).mono ?_
          rintro e w3 ⟨rfl, hb3⟩
          have B3 := Lib.hid (BF.out.trans (hb3.mono LF.out))
          clear hb3
          go_wp2_with fail
          go_returns
          exact ⟨rfl, B3.out⟩
        · rw [endS, if_neg ho, hS] at cs
          rw [hE] at cn
          have e4 : (o == 0) = false := by simpa using ho
          clear hE hS z ho hk
          go_wp2_with fail
          refine (try_nil _).mono ?_
          rintro e w3 ⟨rfl, hb3⟩
          have B3 := Lib.hid (BF.out.trans (hb3.mono LF.out))
          clear hb3
          go_wp2_with fail
          go_returns
          exact ⟨rfl, B3.out⟩
      · have z1 : k % 3 = 1 := by omega
        have e2 : (k % 3 == 0) = false := by rw [z1]; rfl
        have e3 : (k % 3 == 1) = true := by rw [z1]; rfl
        by_cases hi : i = 0
        · have hE : inE k i = i := if_neg z
          have hS : inS k i = 12 := if_pos (.inr hi)
          have e5 : (i == 0) = true := by rw [hi]; rfl
          by_cases ho : o = 0
          · rw [endS, if_pos ho, hS] at cs
            rw [hE] at cn
            have e4 : (o == 0) = true := by rw [ho]; rfl
            clear hE hS z z1 hi ho hk
            go_wp2_with fail
            refine (try_nil _).mono ?_
            rintro e w3 ⟨rfl, hb3⟩
            have B3 := Lib.hid (BF.out.trans (hb3.mono LF.out))
            clear hb3
            go_wp2_with fail
            go_returns
            exact ⟨rfl, B3.out⟩
          · rw [endS, if_neg ho, hS] at cs
            rw [hE] at cn
            have e4 : (o == 0) = false := by simpa using ho
            clear hE hS z z1 hi ho hk
            go_wp2_with fail
            refine (try_nil _).mono ?_
            rintro e w3 ⟨rfl, hb3⟩
            have B3 := Lib.hid (BF.out.trans (hb3.mono LF.out))
            clear hb3
            go_wp2_with fail
            go_returns
            exact ⟨rfl, B3.out⟩
        · have hE : inE k i = i := if_neg z
          have hS : inS k i = 2 := if_neg (fun c => c.elim z hi)
          have e5 : (i == 0) = false := by simpa using hi
          by_cases ho : o = 0
          · rw [endS, if_pos ho, hS] at cs
            rw [hE] at cn
            have e4 : (o == 0) = true := by rw [ho]; rfl
            clear hE hS z z1 hi ho hk
            go_wp2_with fail
            refine (try_nil _).mono ?_
            rintro e w3 ⟨rfl, hb3⟩
            have B3 := Lib.hid (BF.out.trans (hb3.mono LF.out))
            clear hb3
            go_wp2_with fail
            go_returns
            exact ⟨rfl, B3.out⟩
          · rw [endS, if_neg ho, hS] at cs
            rw [hE] at cn
            have e4 : (o == 0) = false := by simpa using ho
            clear hE hS z z1 hi ho hk
            go_wp2_with fail
            refine (try_nil _).mono ?_
            rintro e w3 ⟨rfl, hb3⟩
            have B3 := Lib.hid (BF.out.trans (hb3.mono LF.out))
            clear hb3
            go_wp2_with fail
            go_returns
            exact ⟨rfl, B3.out⟩
end Go.Proofs.Ytkohefgendcofaa
