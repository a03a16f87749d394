/-
  What the functions of chapter 4 return, of the program and of the model, but for whole vectors: contracts of their calls, for every argument. And the draws of a seed and an index.
-/
import Derived.Test.YtigeffgehckbpaaRows
import Derived.Test.YtigeffgehckbpaaRa
import Derived.Test.YtigeffgehckbpaaBase
import Derived.Test.YtigeffgehckbpaaField
import Derived.Test.YtigeffgehckbpaaDraw
namespace Go.Proofs.Ytigeffgehckbpaa
open Go.RowKit
set_option linter.unusedVariables false
set_option linter.unusedSimpArgs false
theorem impl_seedOk (n : Int) (w : World) :
    Calls Try.prog 38 #[.int .i64 n] w fun e w' => e = .returned (.bool (Fp.sok n)) ∧ w = w' := by
  by_cases h : 0 ≤ n
  · by_cases h2 : n ≤ 999
    · have e : Fp.sok n = true := (Fp.sok_iff n).2 ⟨h, h2⟩
      rw [e]; clear e
      go_enter Try.func38, Try.ntmps38
      go_wp2
      go_ret
      exact ⟨rfl, rfl⟩
    · have e : Fp.sok n = false := (Fp.sok_not n).2 (by omega)
      rw [e]; clear e
      go_enter Try.func38, Try.ntmps38
      go_wp2
      go_ret
      exact ⟨rfl, rfl⟩
  · have e : Fp.sok n = false := (Fp.sok_not n).2 (by omega)
    rw [e]; clear e
    go_enter Try.func38, Try.ntmps38
    go_wp2
    go_ret
    exact ⟨rfl, rfl⟩
theorem impl_indexOk (n : Int) (w : World) :
    Calls Try.prog 44 #[.int .i64 n] w fun e w' => e = .returned (.bool (Fp.iok n)) ∧ w = w' := by
  by_cases h : 0 ≤ n
  · by_cases h2 : n ≤ 20
    · have e : Fp.iok n = true := (Fp.iok_iff n).2 ⟨h, h2⟩
      rw [e]; clear e
      go_enter Try.func44, Try.ntmps44
      go_wp2
      go_ret
      exact ⟨rfl, rfl⟩
    · have e : Fp.iok n = false := (Fp.iok_not n).2 (by omega)
      rw [e]; clear e
      go_enter Try.func44, Try.ntmps44
      go_wp2
      go_ret
      exact ⟨rfl, rfl⟩
  · have e : Fp.iok n = false := (Fp.iok_not n).2 (by omega)
    rw [e]; clear e
    go_enter Try.func44, Try.ntmps44
    go_wp2
    go_ret
    exact ⟨rfl, rfl⟩
theorem impl_drawnBy (s a : Int) (w : World) (hs : Fp.sok s = true) (ha : Fp.iok a = true) :
    Calls Try.prog 45 #[.int .i64 s, .int .i64 a] w fun e w' => e = .returned (.int .i64 (Fp.rnd s a)) ∧ w = w' := by
  obtain ⟨⟨p1, p2⟩, p3, p4⟩ := Fp.rnd_bd hs ha
  rw [Fp.sok_iff] at hs
  rw [Fp.iok_iff] at ha
  obtain ⟨s1, s2⟩ := hs
  obtain ⟨a1, a2⟩ := ha
  go_enter Try.func45, Try.ntmps45
  go_wp2_with (go_at_call 50; refine (impl_reduce _ _ (by omega) (by omega)).mono ?_; rintro e w' ⟨rfl, rfl⟩)
  go_ret
  exact ⟨rfl, rfl⟩
theorem impl_RandBoth (s t a : Int) (w : World) :
    Calls Try.prog 28 #[.int .i64 s, .int .i64 t, .int .i64 a] w fun e w' => e = .returned (.int .i64 (Fp.rboth s t a)) ∧ w = w' := by
  cases hs : Fp.sok s
  · rw [Fp.rboth_ns hs]
    go_enter Try.func28, Try.ntmps28
    go_wp2_with (first | (go_at_call 38; (with_reducible refine (impl_seedOk _ _).mono ?_); rintro e w' ⟨rfl, rfl⟩) | (go_at_call 44; (with_reducible refine (impl_indexOk _ _).mono ?_); rintro e w' ⟨rfl, rfl⟩))
    go_ret
    exact ⟨rfl, rfl⟩
  · cases ht : Fp.sok t
    · rw [Fp.rboth_nt ht]
      go_enter Try.func28, Try.ntmps28
      go_wp2_with (first | (go_at_call 38; (with_reducible refine (impl_seedOk _ _).mono ?_); rintro e w' ⟨rfl, rfl⟩) | (go_at_call 44; (with_reducible refine (impl_indexOk _ _).mono ?_); rintro e w' ⟨rfl, rfl⟩))
      go_ret
      exact ⟨rfl, rfl⟩
    · cases ha : Fp.iok a
      · rw [Fp.rboth_na ha]
        go_enter Try.func28, Try.ntmps28
        go_wp2_with (first | (go_at_call 38; (with_reducible refine (impl_seedOk _ _).mono ?_); rintro e w' ⟨rfl, rfl⟩) | (go_at_call 44; (with_reducible refine (impl_indexOk _ _).mono ?_); rintro e w' ⟨rfl, rfl⟩))
        go_ret
        exact ⟨rfl, rfl⟩
      · rw [Fp.rboth_eq hs ht ha]
        have o1 := Fp.rnd_ok s a
        have o2 := Fp.rnd_ok t a
        go_enter Try.func28, Try.ntmps28
        go_wp2_with (first | (go_at_call 38; (with_reducible refine (impl_seedOk _ _).mono ?_); rintro e w' ⟨rfl, rfl⟩) | (go_at_call 44; (with_reducible refine (impl_indexOk _ _).mono ?_); rintro e w' ⟨rfl, rfl⟩) | (go_at_call 45; refine (impl_drawnBy _ _ _ (by assumption) ha).mono ?_; rintro e w' ⟨rfl, rfl⟩) | (go_at_call 46; refine (impl_plus _ _ _ o1 o2).mono ?_; rintro e w' ⟨rfl, rfl⟩))
        go_ret
        exact ⟨rfl, rfl⟩
theorem spec_l4At (s a : Int) (w : World) (hs : Fp.sok s = true) (ha : Fp.iok a = true) :
    Calls Try.prog 49 #[.int .i64 s, .int .i64 a] w fun e w' => e = .returned (.int .i64 (Fp.rnd s a)) ∧ w = w' := by
  obtain ⟨⟨p1, p2⟩, p3, p4⟩ := Fp.rnd_bd' hs ha
  rw [Fp.sok_iff] at hs
  rw [Fp.iok_iff] at ha
  obtain ⟨s1, s2⟩ := hs
  obtain ⟨a1, a2⟩ := ha
  go_enter Try.func49, Try.ntmps49
  go_wp2
  go_ret
  exact ⟨by rw [← Fp.rnd_eq']; rfl, rfl⟩
theorem inB_s (n : Int) : inB n 0 999 = Fp.sok n := rfl
theorem inB_i (n : Int) : inB n 0 20 = Fp.iok n := rfl
theorem spec_l4Seed (s a : Int) (w : World) :
    Calls Try.prog 35 #[.int .i64 s, .int .i64 a] w fun e w' => e = .returned (.bool (Fp.sok s && Fp.iok a)) ∧ w = w' := by
  rw [← inB_s, ← inB_i]
  cases hs : inB s 0 999
  · go_enter Try.func35, Try.ntmps35
    go_wp2_with (go_at_call 37; (with_reducible refine (spec_l6In _ _ _ _).mono ?_); rintro e w' ⟨rfl, rfl⟩)
    go_ret
    exact ⟨rfl, rfl⟩
  · go_enter Try.func35, Try.ntmps35
    go_wp2_with (go_at_call 37; (with_reducible refine (spec_l6In _ _ _ _).mono ?_); rintro e w' ⟨rfl, rfl⟩)
    go_ret
    exact ⟨rfl, rfl⟩
theorem spec_RandBoth (s t a : Int) (w : World) :
    Calls Try.prog 36 #[.int .i64 s, .int .i64 t, .int .i64 a] w fun e w' => e = .returned (.int .i64 (Fp.rboth s t a)) ∧ w = w' := by
  cases hs : Fp.sok s
  · rw [Fp.rboth_ns hs]
    go_enter Try.func36, Try.ntmps36
    go_wp2_with (go_at_call 35; (with_reducible refine (spec_l4Seed _ _ _).mono ?_); rintro e w' ⟨rfl, rfl⟩)
    go_ret
    exact ⟨rfl, rfl⟩
  · cases ha : Fp.iok a
    · rw [Fp.rboth_na ha]
      go_enter Try.func36, Try.ntmps36
      go_wp2_with (go_at_call 35; (with_reducible refine (spec_l4Seed _ _ _).mono ?_); rintro e w' ⟨rfl, rfl⟩)
      go_ret
      exact ⟨rfl, rfl⟩
    · cases ht : Fp.sok t
      · rw [Fp.rboth_nt ht]
        go_enter Try.func36, Try.ntmps36
        go_wp2_with (go_at_call 35; (with_reducible refine (spec_l4Seed _ _ _).mono ?_); rintro e w' ⟨rfl, rfl⟩)
        go_ret
        exact ⟨rfl, rfl⟩
      · rw [Fp.rboth_eq hs ht ha, ← Fp.sum_eq (Fp.rnd_ok s a) (Fp.rnd_ok t a)]
        go_enter Try.func36, Try.ntmps36
        go_wp2_with (first | (go_at_call 35; (with_reducible refine (spec_l4Seed _ _ _).mono ?_); rintro e w' ⟨rfl, rfl⟩) | (go_at_call 48; (with_reducible refine (spec_FieldSum _ _ _).mono ?_); rintro e w' ⟨rfl, rfl⟩) | (go_at_call 49; refine (spec_l4At _ _ _ (by assumption) ha).mono ?_; rintro e w' ⟨rfl, rfl⟩))
        go_ret
        exact ⟨rfl, rfl⟩
/-- A drawn seed, and the reader behind it. -/
def SeedPost (B b q : Nat) (w : World) (e : Ending) (w' : World) : Prop := ∃ v : Int, -1 ≤ v ∧ v ≤ 1000 ∧ e = .returned (.int .i64 v) ∧ Rd B b (q + 2) w' ∧ Kb b w w'
theorem spec_l91Seed (B b q : Nat) (w : World) (h : Rd B b q w) (hq : q ≤ 100000000) :
    Calls Try.prog 47 #[.pointer (some ⟨b, 0, none⟩)] w (SeedPost B b q w) := by
  have H := Lib.hid h
  clear h
  go_enter Try.func47, Try.ntmps47
  go_wp2_with fail
  refine (spec_pick B b q 60 w H.out (by omega)).mono ?_
  rintro e w1 ⟨v, ⟨hv1, hv2, -⟩, rfl, r1, k1, s1⟩
  have R1 := Lib.hid r1
  have K1 := Lib.hid k1
  clear r1 k1 s1
  by_cases h0 : v = 0
  · subst h0
    go_wp2_with fail
    refine (spec_pick B b (q + 1) 2 _ (R1.out.keep ((Below.refl _ _).alloc (Nat.le_refl _) _)) (by omega)).mono ?_
    rintro e w2 ⟨u, ⟨hu1, hu2, -⟩, rfl, r2, k2, s2⟩
    obtain ⟨c0, c1⟩ := two_at (B := B) (q := q) k2 R1.out.inb
    have R2 := Lib.hid r2
    have K2 := Lib.hid ((K1.out.alloc _).trans k2)
    clear r2 k2 s2
    have hu : u = 0 ∨ u = 1 := by omega
    clear hu1 hu2
    rcases hu with rfl | rfl
    · go_wp2
      go_ret
      exact ⟨_, by omega, by omega, rfl, R2.out.mono (by omega), K2.out⟩
    · go_wp2
      go_ret
      exact ⟨_, by omega, by omega, rfl, R2.out.mono (by omega), K2.out⟩
  · have h0b : (v == 0) = false := beq_eq_false_iff_ne.2 h0
    go_wp2_with fail
    refine (spec_pick B b (q + 1) 1000 _ R1.out (by omega)).mono ?_
    rintro e w2 ⟨u, ⟨hu1, hu2, -⟩, rfl, r2, k2, s2⟩
    have R2 := Lib.hid r2
    have K2 := Lib.hid (K1.out.trans k2)
    clear r2 k2 s2
    go_wp2
    go_ret
    exact ⟨u, by omega, by omega, rfl, R2.out.mono (by omega), K2.out⟩
/-- Drawn: a seed and an index; nothing that was there has turned. -/
def SIPost (w : World) (e : Ending) (w' : World) : Prop := ∃ x y : Int, -1 ≤ x ∧ x ≤ 1000 ∧ -1 ≤ y ∧ y ≤ 21 ∧ e = .returned (.tuple #[.int .i64 x, .int .i64 y]) ∧ Below w.heap.size w w'
/-- Drawn: two seeds and an index; nothing that was there has turned. -/
def SSIPost (w : World) (e : Ending) (w' : World) : Prop := ∃ x z y : Int, -1 ≤ x ∧ x ≤ 1000 ∧ -1 ≤ z ∧ z ≤ 1000 ∧ -1 ≤ y ∧ y ≤ 21 ∧ e = .returned (.tuple #[.int .i64 x, .int .i64 z, .int .i64 y]) ∧ Below w.heap.size w w'
theorem spec_DrawRandBoth (a : Option Addr) (len cap : Nat) (w : World) (hb : Bys w.heap.size w a len) (hc : len ≤ cap) (hm : cap ≤ maxLen) :
    Calls Try.prog 43 #[.slice a len cap] w (SSIPost w) := by
  have Hb := Lib.hid hb
  clear hb
  go_enter Try.func43, Try.ntmps43
  go_wp2_with fail
  refine (spec_l6Open w.heap.size a len cap w (Nat.le_refl _) Hb.out hc hm).mono ?_
  rintro e w1 ⟨rfl, r1, b1, s1⟩
  have R1 := Lib.hid r1
  have B1 := Lib.hid b1
  have S1 := Lib.hid s1
  clear r1 b1 s1
  go_wp2_with fail
  refine (spec_l91Seed w.heap.size w.heap.size 0 w1 R1.out (by omega)).mono ?_
  rintro e w2 ⟨x, x1, x2, rfl, r2, k2⟩
  have R2 := Lib.hid r2
  have K2 := Lib.hid k2
  clear r2 k2
  go_wp2_with fail
  refine (spec_l91Seed w.heap.size w.heap.size 2 w2 R2.out (by omega)).mono ?_
  rintro e w3 ⟨z, z1, z2, rfl, r3, k3⟩
  have R3 := Lib.hid r3
  have K3 := Lib.hid (K2.out.trans k3)
  clear r3 k3
  go_wp2_with fail
  refine (spec_pick w.heap.size w.heap.size 4 23 w3 R3.out (by omega)).mono ?_
  rintro e w4 ⟨y, ⟨y1, y2, -⟩, rfl, r4, k4, s4⟩
  have K4 := Lib.hid (K3.out.trans k4)
  clear r4 k4 s4
  go_wp2
  go_ret3
  exact ⟨x, z, y - 1, x1, x2, z1, z2, by omega, by omega, rfl, B1.out.trans (K4.out.below (by have := S1.out; omega) (Nat.le_refl _))⟩
end Go.Proofs.Ytigeffgehckbpaa
