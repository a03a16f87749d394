/-
  The draws of chapter 11.
-/
import Derived.Test.YtlpfogkfjjbklacDlist
import Derived.Test.YtlpfogkfjjbklacTys
namespace Go.Proofs.Ytlpfogkfjjbklac
open Go.RowKit
set_option linter.unusedVariables false
set_option linter.unusedSimpArgs false
theorem five_at {b : Nat} {w w2 : World} {x y z u v : Int} {t : Nat} (k : Kb b (w.alloc (.cells #[.int .i64 x, .int .i64 y, .int .i64 z, .int .i64 u, .int .i64 v] t)) w2) (hb : b < w.heap.size) {i : Nat} (hi : i < 5) :
    ∃ c : Int, w2.cell? ⟨w.heap.size, i, none⟩ = some (.int .i64 c) := by
  rw [k.cell (p := ⟨w.heap.size, i, none⟩) (by simp) (by simp; omega)]
  match i, hi with
  | 0, _ => exact ⟨x, by simp⟩
  | 1, _ => exact ⟨y, by simp⟩
  | 2, _ => exact ⟨z, by simp⟩
  | 3, _ => exact ⟨u, by simp⟩
  | 4, _ => exact ⟨v, by simp⟩
def KindPost (B b q : Nat) (w : World) (e : Ending) (w' : World) : Prop := ∃ v : Int, 0 ≤ v ∧ v ≤ 4 ∧ e = .returned (.int .i64 v) ∧ Rd B b (q + 2) w' ∧ Kb b w w'
theorem spec_l91Kind (B b q : Nat) (w : World) (h : Rd B b q w) (hq : q ≤ 100000000) :
    Calls Try.prog 19 #[.pointer (some ⟨b, 0, none⟩)] w (KindPost B b q w) := by
  have H := Lib.hid h
  clear h
  go_enter Try.func19, Try.ntmps19
  go_wp2_with fail
  refine (spec_pick B b q 60 w H.out (by omega)).mono ?_
  rintro e w1 ⟨v, ⟨hv1, hv2, -⟩, rfl, r1, k1, s1⟩
  have R1 := Lib.hid r1
  have K1 := Lib.hid k1
  clear r1 k1 s1
  by_cases h0 : v = 0
  · subst h0
    go_wp2_with fail
    refine (spec_pick B b (q + 1) 2 _ (R1.out.keep ((Below.refl _ _).alloc (Nat.le_refl _) _)) (by omega)).mono ?_
    rintro e w2 ⟨u, ⟨hu1, hu2, -⟩, rfl, r2, k2, s2⟩
    obtain ⟨c0, c1⟩ := two_at (B := B) (q := q) k2 R1.out.inb
    have R2 := Lib.hid r2
    have K2 := Lib.hid ((K1.out.alloc _).trans k2)
    clear r2 k2 s2
    have hu : u = 0 ∨ u = 1 := by omega
    clear hu1 hu2
    rcases hu with rfl | rfl
    · go_wp2
      go_ret
      exact ⟨_, by omega, by omega, rfl, R2.out.mono (by omega), K2.out⟩
    · go_wp2
      go_ret
      exact ⟨_, by omega, by omega, rfl, R2.out.mono (by omega), K2.out⟩
  · have h0b : (v == 0) = false := beqF h0
    clear h0
    go_wp2_with fail
    refine (spec_pick B b (q + 1) 3 _ R1.out (by omega)).mono ?_
    rintro e w2 ⟨u, ⟨hu1, hu2, -⟩, rfl, r2, k2, s2⟩
    have R2 := Lib.hid r2
    have K2 := Lib.hid (K1.out.trans k2)
    clear r2 k2 s2
    go_wp2
    go_ret
    exact ⟨_, by omega, by omega, rfl, R2.out.mono (by omega), K2.out⟩
theorem tk_add {v : Int} (h0 : 0 ≤ v) (h1 : v < 3) : Fp.tk (1 + v) = true := by simp [Fp.tk]; omega
def ValPost (B b q : Nat) (w : World) (e : Ending) (w' : World) : Prop := ∃ k v : Int, 0 ≤ k ∧ k ≤ 4 ∧ -1 ≤ v ∧ v ≤ 8 ∧ e = .returned (.tuple #[.int .i64 k, .int .i64 v]) ∧ Rd B b (q + 6) w' ∧ Kb b w w'
theorem spec_l91Val (B b q : Nat) (w : World) (h : Rd B b q w) (hq : q ≤ 10000000) :
    Calls Try.prog 9 #[.pointer (some ⟨b, 0, none⟩)] w (ValPost B b q w) := by
  have H := Lib.hid h
  clear h
  go_enter Try.func9, Try.ntmps9
  go_wp2_with fail
  refine (spec_pick B b q 3 w H.out (by omega)).mono ?_
  rintro e w1 ⟨v, ⟨hv1, hv2, -⟩, rfl, r1, k1, s1⟩
  have R1 := Lib.hid r1
  have K1 := Lib.hid k1
  clear r1 k1 s1
  have hv2 := hv2 (by omega)
  have ml := Fp.tmost_le (1 + v)
  go_wp2_with fail
  refine (spec_l11Most _ _ (tk_add hv1 hv2)).mono ?_
  rintro e w2 ⟨rfl, b2⟩
  have R2 := Lib.hid (R1.out.keep b2)
  have K2 := Lib.hid (K1.out.trans (Kb.of_below b2))
  clear b2
  go_wp2_with fail
  refine (spec_pick B b (q + 1) _ _ R2.out (by omega)).mono ?_
  rintro e w3 ⟨u, ⟨hu1, hu2, -⟩, rfl, r3, k3, s3⟩
  have hu2 := hu2 (by omega)
  have R3 := Lib.hid r3
  have K3 := Lib.hid (K2.out.trans k3)
  clear r3 k3 s3
  go_wp2_with fail
  refine (spec_pick B b (q + 2) 30 _ R3.out (by omega)).mono ?_
  rintro e w4 ⟨d, ⟨hd1, hd2, -⟩, rfl, r4, k4, s4⟩
  have R4 := Lib.hid r4
  have K4 := Lib.hid (K3.out.trans k4)
  clear r4 k4 s4
  by_cases h0 : d = 0
  · subst h0
    go_wp2_with fail
    refine (spec_l91Kind B b (q + 3) _ R4.out (by omega)).mono ?_
    rintro e w5 ⟨k, hk1, hk2, rfl, r5, k5⟩
    have R5 := Lib.hid r5
    have K5 := Lib.hid (K4.out.trans k5)
    clear r5 k5
    go_wp2_with fail
    refine (spec_pick B b (q + 5) 10 _ R5.out (by omega)).mono ?_
    rintro e w6 ⟨y, ⟨hy1, hy2, -⟩, rfl, r6, k6, s6⟩
    have R6 := Lib.hid r6
    have K6 := Lib.hid (K5.out.trans k6)
    clear r6 k6 s6
    go_wp2
    go_ret2
    exact ⟨_, _, hk1, hk2, by omega, by omega, rfl, R6.out.mono (by omega), K6.out⟩
  · have h0b : (d == 0) = false := beqF h0
    clear h0
    go_wp2
    go_ret2
    exact ⟨_, _, by omega, by omega, by omega, by omega, rfl, R4.out.mono (by omega), K4.out⟩
def DrawnVal (w : World) (e : Ending) (w' : World) : Prop := ∃ k v : Int, 0 ≤ k ∧ k ≤ 4 ∧ -1 ≤ v ∧ v ≤ 8 ∧ e = .returned (.tuple #[.int .i64 k, .int .i64 v]) ∧ Below w.heap.size w w'
theorem spec_DrawTypeMake (a : Option Addr) (len cap : Nat) (w : World) (hb : Bys w.heap.size w a len) (hc : len ≤ cap) (hm : cap ≤ maxLen) :
    Calls Try.prog 4 #[.slice a len cap] w (DrawnVal w) := by
  have Hb := Lib.hid hb
  clear hb
  go_enter Try.func4, Try.ntmps4
  go_wp2_with fail
  refine (spec_l6Open w.heap.size a len cap w (Nat.le_refl _) Hb.out hc hm).mono ?_
  rintro e w1 ⟨rfl, r1, b1, s1⟩
  have R1 := Lib.hid r1
  have B1 := Lib.hid b1
  have S1 := Lib.hid s1
  clear r1 b1 s1
  go_wp2_with fail
  refine (spec_l91Val w.heap.size w.heap.size 0 w1 R1.out (by omega)).mono ?_
  rintro e w2 ⟨k, v, k1, k2, v1, v2, rfl, r2, kb2⟩
  have K2 := Lib.hid kb2
  clear r2 kb2
  go_wp2
  go_ret2
  exact ⟨_, _, k1, k2, v1, v2, rfl, B1.out.trans (K2.out.below (by have := S1.out; omega) (Nat.le_refl _))⟩
end Go.Proofs.Ytlpfogkfjjbklac
