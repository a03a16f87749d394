/-
  Chapter 31: the laws' helpers, and the draws.
-/
import Derived.Test.YtkakdibfkdognaaFrf
import Derived.Test.YtkakdibfkdognaaDraw
namespace Go.Proofs.Ytkakdibfkdognaa
open Go.RowKit
set_option linter.unusedVariables false
set_option linter.unusedSimpArgs false
set_option maxRecDepth 20000
theorem laws_toFrac (n d : Int) (w : World) :
    Calls Try.prog 26 #[.agg #[.int .i64 n, .int .i64 d]] w (Bel (.agg #[.int .i64 n, .int .i64 d]) w) := by
  go_enter Try.func26, Try.ntmps26
  go_wp2
  exact bodyPost_ret (v := .agg #[.int .i64 n, .int .i64 d]) (by simp [results, Try.results26, go_sem]) rfl ⟨rfl, (((Below.refl _ _).alloc (Nat.le_refl _) _).alloc (by simp) _).alloc (by simp; omega) _⟩
theorem laws_eqFrac (a b c d : Int) (w : World) :
    Calls Try.prog 27 #[.agg #[.int .i64 a, .int .i64 b], .agg #[.int .i64 c, .int .i64 d]] w (Bel (.bool (a == c && b == d)) w) := by
  obtain ⟨w1, w2, hw1, hw2, Z1, Z2, P0⟩ := pair_box w a b c d 26
  obtain ⟨c0, c1, c2, c3⟩ := P0.at
  have P := Lib.hid P0
  clear P0
  by_cases h1 : a = c
  · by_cases h2 : b = d
    · subst h1 h2
      have e1 : (a != a) = false := by simp
      have e2 : (b != b) = false := by simp
      go_enter Try.func27, Try.ntmps27
      go_wp2
      go_ret
      exact ⟨by simp, P.out.bel⟩
    · subst h1
      have e1 : (a != a) = false := by simp
      have e2 : (b != d) = true := by simp [h2]
      have HH := Lib.hid h2
      clear h2
      go_enter Try.func27, Try.ntmps27
      go_wp2
      go_ret
      exact ⟨by have := HH.out; simp [this], P.out.bel⟩
  · have e1 : (a != c) = true := by simp [h1]
    have HH := Lib.hid h1
    clear h1
    go_enter Try.func27, Try.ntmps27
    go_wp2
    go_ret
    exact ⟨by have := HH.out; simp [this], P.out.bel⟩
def FracPost (B b q : Nat) (w : World) (e : Ending) (w' : World) : Prop := ∃ x y : Int, e = .returned (.agg #[.int .i64 x, .int .i64 y]) ∧ Rd B b (q + 5) w' ∧ Kb b w w'
set_option maxHeartbeats 1000000 in
theorem spec_l92Frac (B b q : Nat) (w : World) (h : Rd B b q w) (hq : q ≤ 100000000) :
    Calls Try.prog 35 #[.pointer (some ⟨b, 0, none⟩)] w (FracPost B b q w) := by
  have hbw := h.inb
  obtain ⟨w0, hw0, Z0, B0, T0⟩ := duo_box w 0 0 26
  have H := Lib.hid (h.keep B0)
  have T := Lib.hid T0
  have K := Lib.hid (Kb.of_below (b := b) B0)
  clear h B0 T0
  go_enter Try.func35, Try.ntmps35
  go_wp2_with fail
  refine (spec_pick B b q 12 w0 H.out (by omega)).mono ?_
  rintro e w1 ⟨v, ⟨hv1, hv2, -⟩, rfl, r1, k1, s1⟩
  have T1 := Lib.hid (T.out.kb k1 (by omega))
  have K1 := Lib.hid (K.out.trans k1)
  have R1 := Lib.hid r1
  clear r1 k1 hw0
  go_wp2_with fail
  refine (spec_pick B b (q + 1) 12 w1 R1.out (by omega)).mono ?_
  rintro e w2 ⟨u, ⟨hu1, hu2, -⟩, rfl, r2, k2, s2⟩
  have T2 := Lib.hid (T1.out.kb k2 (by omega))
  have K2 := Lib.hid (K1.out.trans k2)
  have R2 := Lib.hid r2
  clear r2 k2
  have hv3 := hv2 (by omega)
  have hu3 := hu2 (by omega)
  obtain ⟨n, rfl⟩ := Int.eq_ofNat_of_zero_le hv1
  obtain ⟨m, rfl⟩ := Int.eq_ofNat_of_zero_le hu1
  clear hv2 hu2
  go_wp2_with fail
  refine (spec_l31Of' _ _ n (m + 1) w2 rfl (by omega) (by omega) (by omega) (by omega)).mono ?_
  rintro e w3 ⟨rfl, b3⟩
  obtain ⟨w4, hw4, Z4, B4, T4⟩ := duo_box w3 (Fr.num n (m + 1)) (Fr.den n (m + 1)) 26
  have Z3 := b3.size
  have T5 := Lib.hid ((T2.out.below b3 (by omega)).below B4 (by omega))
  have K5 := Lib.hid ((K2.out.trans (Kb.of_below b3)).trans (Kb.of_below B4))
  have R5 := Lib.hid ((R2.out.keep b3).keep B4)
  have V := Lib.hid T4
  obtain ⟨d0, d1, -, -⟩ := duo_at T4
  clear b3 B4 T4
  go_wp2_with fail
  refine (spec_pick B b (q + 2) 30 w4 R5.out (by omega)).mono ?_
  rintro e w6 ⟨s, ⟨hs1, hs2, -⟩, rfl, r6, k6, s6⟩
  have T6 := Lib.hid (T5.out.kb k6 (by omega))
  have V6 := Lib.hid (V.out.kb k6 (by omega))
  have K6 := Lib.hid (K5.out.trans k6)
  have R6 := Lib.hid r6
  clear r6 k6 d0 d1 hw4
  by_cases h0 : s = 0
  · subst h0
    go_wp2_with fail
    refine (spec_pick B b (q + 3) 9 w6 R6.out (by omega)).mono ?_
    rintro e w7 ⟨x, hx, rfl, r7, k7, s7⟩
    have T7 := Lib.hid (T6.out.kb k7 (by omega))
    have K7 := Lib.hid (K6.out.trans k7)
    have R7 := Lib.hid r7
    clear r7 k7 hx
    go_wp2_with fail
    refine (spec_pick B b (q + 4) 70 w7 R7.out (by omega)).mono ?_
    rintro e w8 ⟨y, hy, rfl, r8, k8, s8⟩
    obtain ⟨e0, e1, f0, f1⟩ := duo_at (T7.out.kb k8 (by omega))
    have K8 := Lib.hid (K7.out.trans k8)
    have R8 := Lib.hid r8
    clear r8 k8 hy
    go_wp2
    refine bodyPost_ret (v := .agg #[.int .i64 x, .int .i64 y]) (by simp [results, Try.results35, go_sem, e0, e1]) rfl ⟨x, y, rfl, ?_, (K8.out.setNew (by simp) _).setNew (by simp) _⟩
    exact ((R8.out.mono (by omega)).keepB ((((Below.refl w.heap.size _)).setCell (by simp) _).setCell (by simp) _) hbw)
  · have hs : (s == 0) = false := beqF h0
    obtain ⟨e0, e1, f0, f1⟩ := duo_at T6.out
    obtain ⟨d0, d1, -, -⟩ := duo_at V6.out
    clear h0
    go_wp2
    refine bodyPost_ret (v := .agg #[.int .i64 (Fr.num n (m + 1) : Int), .int .i64 (Fr.den n (m + 1) : Int)]) (by simp [results, Try.results35, go_sem, e0, e1]) rfl ⟨_, _, rfl, ?_, (K6.out.setNew (by simp) _).setNew (by simp) _⟩
    exact ((R6.out.mono (by omega)).keepB ((((Below.refl w.heap.size _)).setCell (by simp) _).setCell (by simp) _) hbw)
def FracOfPost (w : World) (e : Ending) (w' : World) : Prop := ∃ x y : Int, -60 ≤ x ∧ x ≤ 59 ∧ 0 ≤ y ∧ y ≤ 59 ∧ e = .returned (.tuple #[.int .i64 x, .int .i64 y]) ∧ Below w.heap.size w w'
set_option maxHeartbeats 1000000 in
theorem spec_DrawFracOf (a : Option Addr) (len cap : Nat) (w : World) (hb : Bys w.heap.size w a len) (hc : len ≤ cap) (hm : cap ≤ maxLen) :
    Calls Try.prog 14 #[.slice a len cap] w (FracOfPost w) := by
  go_enter Try.func14, Try.ntmps14
  go_wp2_with fail
  refine (spec_l6Open w.heap.size a len cap w (Nat.le_refl _) hb hc hm).mono ?_
  rintro e w1 ⟨rfl, r1, b1, s1⟩
  have R1 := Lib.hid r1
  have B1 := Lib.hid b1
  clear r1 b1 s1
  go_wp2_with fail
  refine (spec_pick w.heap.size w.heap.size 0 60 w1 R1.out (by omega)).mono ?_
  rintro e w2 ⟨v, ⟨hv1, hv2, -⟩, rfl, r2, k2, s2⟩
  have hv3 := hv2 (by omega)
  have R2 := Lib.hid r2
  have K2 := Lib.hid k2
  clear r2 k2 s2 hv2
  go_wp2_with fail
  refine (spec_pick w.heap.size w.heap.size 1 24 w2 R2.out (by omega)).mono ?_
  rintro e w3 ⟨u, ⟨hu1, hu2, -⟩, rfl, r3, k3, s3⟩
  have hu3 := hu2 (by omega)
  have R3 := Lib.hid r3
  have K3 := Lib.hid (K2.out.trans k3)
  clear r3 k3 s3 hu2
  have q0 : 0 ≤ u / 23 ∧ u / 23 ≤ 1 := by omega
  obtain ⟨q1, q2⟩ := q0
  go_wp2_with fail
  refine (spec_pick w.heap.size w.heap.size 2 60 w3 R3.out (by omega)).mono ?_
  rintro e w4 ⟨y, ⟨hy1, hy2, -⟩, rfl, r4, k4, s4⟩
  have hy3 := hy2 (by omega)
  have K4 := Lib.hid (K3.out.trans k4)
  clear r4 k4 s4 hy2
  go_wp2
  go_ret2
  exact ⟨_, _, by omega, by omega, by omega, by omega, rfl, B1.out.trans (K4.out.below B1.out.size (Nat.le_refl _))⟩
def spec_DrawFracSumPost (w : World) (e : Ending) (w' : World) : Prop := ∃ a b c d : Int, e = .returned (.tuple #[.agg #[.int .i64 a, .int .i64 b], .agg #[.int .i64 c, .int .i64 d]]) ∧ Below w.heap.size w w'
def spec_DrawFracCmpPost (w : World) (e : Ending) (w' : World) : Prop := ∃ a b c d : Int, e = .returned (.tuple #[.agg #[.int .i64 a, .int .i64 b], .agg #[.int .i64 c, .int .i64 d]]) ∧ Below w.heap.size w w'
/-- Two boxes for answers. -/
theorem zero_box (w : World) (t : TypeId) : ∃ w1 w2, w.alloc (.cells #[.int .i64 0, .int .i64 0] t) = w1 ∧ w1.alloc (.cells #[.int .i64 0, .int .i64 0] t) = w2 ∧ w1.heap.size = w.heap.size + 1 ∧ w2.heap.size = w.heap.size + 2 ∧ Pair w w2 0 0 0 0 t := pair_box w 0 0 0 0 t
theorem pair_kb {w W W' : World} {a b c d : Int} {t : TypeId} {r : Nat} (h : Pair w W a b c d t) (k : Kb r W W') (hr : w.heap.size + 2 ≤ r) : Pair w W' a b c d t :=
  ⟨h.one.kb k (by omega), h.two.kb k (by omega), Nat.le_trans h.size k.size, h.bel.trans (k.below (by have := h.size; omega) (by omega))⟩
set_option maxHeartbeats 1000000 in
theorem spec_DrawFracSum (a : Option Addr) (len cap : Nat) (w : World) (hb : Bys w.heap.size w a len) (hc : len ≤ cap) (hm : cap ≤ maxLen) :
    Calls Try.prog 18 #[.slice a len cap] w (spec_DrawFracSumPost w) := by
  obtain ⟨w1, w2, hw1, hw2, Z1, Z2, P0⟩ := zero_box w 26
  have P := Lib.hid P0
  have HB := Lib.hid (hb.below P0.bel)
  clear P0 hb
  go_enter Try.func18, Try.ntmps18
  go_wp2_with fail
  refine (spec_l6Open w.heap.size a len cap w2 (by omega) HB.out hc hm).mono ?_
  rintro e w3 ⟨rfl, r3, b3, s3⟩
  rw [Z2] at r3
  have R3 := Lib.hid r3
  have P3 := Lib.hid (P.out.next b3)
  clear r3 b3 hw1 hw2
  go_wp2_with fail
  refine (spec_l92Frac w.heap.size (w.heap.size + 2) 0 w3 R3.out (by omega)).mono ?_
  rintro e w4 ⟨x, y, rfl, r4, k4⟩
  have R4 := Lib.hid r4
  have P4 := Lib.hid (pair_kb P3.out k4 (by omega))
  clear r4 k4
  go_wp2_with fail
  refine (spec_l92Frac w.heap.size (w.heap.size + 2) (0 + 5) w4 R4.out (by omega)).mono ?_
  rintro e w5 ⟨u, v, rfl, r5, k5⟩
  have P5 := Lib.hid (pair_kb P4.out k5 (by omega))
  clear r5 k5
  obtain ⟨e0, e1, f0, f1⟩ := duo_at P5.out.one
  obtain ⟨e2, e3, f2, f3⟩ := duo_at P5.out.two
  go_wp2
  exact bodyPost_ret (v := .tuple #[.agg #[.int .i64 x, .int .i64 y], .agg #[.int .i64 u, .int .i64 v]]) (by simp [results, Try.results18, go_sem, e0, e1, e2, e3]) rfl ⟨x, y, u, v, rfl, (((P5.out.bel.setCell (by simp) _).setCell (by simp) _).setCell (by simp) _).setCell (by simp) _⟩
set_option maxHeartbeats 1000000 in
theorem spec_DrawFracCmp (a : Option Addr) (len cap : Nat) (w : World) (hb : Bys w.heap.size w a len) (hc : len ≤ cap) (hm : cap ≤ maxLen) :
    Calls Try.prog 22 #[.slice a len cap] w (spec_DrawFracCmpPost w) := by
  obtain ⟨w1, w2, hw1, hw2, Z1, Z2, P0⟩ := zero_box w 26
  have P := Lib.hid P0
  have HB := Lib.hid (hb.below P0.bel)
  have HB2 := Lib.hid (show Bys w2.heap.size w2 a len from fun hl => by
    obtain ⟨bb, off, h1, h2, h3⟩ := HB.out hl
    exact ⟨bb, off, h1, by omega, h3⟩)
  clear P0 hb
  go_enter Try.func22, Try.ntmps22
  go_wp2_with fail
  refine (spec_DrawFracSum a len cap w2 HB2.out hc hm).mono ?_
  rintro e w3 ⟨x, y, u, v, rfl, b3⟩
  have P3 := Lib.hid (P.out.next b3)
  clear b3 hw1 hw2
  obtain ⟨e0, e1, f0, f1⟩ := duo_at P3.out.one
  obtain ⟨e2, e3, f2, f3⟩ := duo_at P3.out.two
  go_wp2
  exact bodyPost_ret (v := .tuple #[.agg #[.int .i64 x, .int .i64 y], .agg #[.int .i64 u, .int .i64 v]]) (by simp [results, Try.results22, go_sem, e0, e1, e2, e3]) rfl ⟨x, y, u, v, rfl, (((P3.out.bel.setCell (by simp) _).setCell (by simp) _).setCell (by simp) _).setCell (by simp) _⟩
end Go.Proofs.Ytkakdibfkdognaa
