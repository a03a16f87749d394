/-
  The draws of chapter 11.
-/
import Derived.Test.YtlfmginnffdicaaDlist
import Derived.Test.YtlfmginnffdicaaTys
namespace Go.Proofs.Ytlfmginnffdicaa
open Go.RowKit
set_option linter.unusedVariables false
set_option linter.unusedSimpArgs false
set_option maxRecDepth 20000
theorem five_at {b : Nat} {w w2 : World} {x y z u v : Int} {t : Nat} (k : Kb b (w.alloc (.cells #[.int .i64 x, .int .i64 y, .int .i64 z, .int .i64 u, .int .i64 v] t)) w2) (hb : b < w.heap.size) {i : Nat} (hi : i < 5) :
    ∃ c : Int, w2.cell? ⟨w.heap.size, i, none⟩ = some (.int .i64 c) := by
  rw [k.cell (p := ⟨w.heap.size, i, none⟩) (by simp) (by simp; omega)]
  match i, hi with
  | 0, _ => exact ⟨x, by simp⟩
  | 1, _ => exact ⟨y, by simp⟩
  | 2, _ => exact ⟨z, by simp⟩
  | 3, _ => exact ⟨u, by simp⟩
  | 4, _ => exact ⟨v, by simp⟩
def KindPost (B b q : Nat) (w : World) (e : Ending) (w' : World) : Prop := ∃ v : Int, 0 ≤ v ∧ v ≤ 4 ∧ e = .returned (.int .i64 v) ∧ Rd B b (q + 2) w' ∧ Kb b w w'
theorem spec_l91Kind (B b q : Nat) (w : World) (h : Rd B b q w) (hq : q ≤ 100000000) :
    Calls Try.prog 48 #[.pointer (some ⟨b, 0, none⟩)] w (KindPost B b q w) := by
  have H := Lib.hid h
  clear h
  go_enter Try.func48, Try.ntmps48
  go_wp2_with fail
  refine (spec_pick B b q 60 w H.out (by omega)).mono ?_
  rintro e w1 ⟨v, ⟨hv1, hv2, -⟩, rfl, r1, k1, s1⟩
  have R1 := Lib.hid r1
  have K1 := Lib.hid k1
  clear r1 k1 s1
  by_cases h0 : v = 0
  · subst h0
    go_wp2_with fail
    refine (spec_pick B b (q + 1) 2 _ (R1.out.keep ((Below.refl _ _).alloc (Nat.le_refl _) _)) (by omega)).mono ?_
    rintro e w2 ⟨u, ⟨hu1, hu2, -⟩, rfl, r2, k2, s2⟩
    obtain ⟨c0, c1⟩ := two_at (B := B) (q := q) k2 R1.out.inb
    have R2 := Lib.hid r2
    have K2 := Lib.hid ((K1.out.alloc _).trans k2)
    clear r2 k2 s2
    have hu : u = 0 ∨ u = 1 := by omega
    clear hu1 hu2
    rcases hu with rfl | rfl
    · go_wp2
      go_ret
      exact ⟨_, by omega, by omega, rfl, R2.out.mono (by omega), K2.out⟩
    · go_wp2
      go_ret
      exact ⟨_, by omega, by omega, rfl, R2.out.mono (by omega), K2.out⟩
  · have h0b : (v == 0) = false := beqF h0
    clear h0
    go_wp2_with fail
    refine (spec_pick B b (q + 1) 3 _ R1.out (by omega)).mono ?_
    rintro e w2 ⟨u, ⟨hu1, hu2, -⟩, rfl, r2, k2, s2⟩
    have R2 := Lib.hid r2
    have K2 := Lib.hid (K1.out.trans k2)
    clear r2 k2 s2
    go_wp2
    go_ret
    exact ⟨_, by omega, by omega, rfl, R2.out.mono (by omega), K2.out⟩
theorem tk_add {v : Int} (h0 : 0 ≤ v) (h1 : v < 3) : Fp.tk (1 + v) = true := by simp [Fp.tk]; omega
def ValPost (B b q : Nat) (w : World) (e : Ending) (w' : World) : Prop := ∃ k v : Int, 0 ≤ k ∧ k ≤ 4 ∧ -1 ≤ v ∧ v ≤ 8 ∧ e = .returned (.tuple #[.int .i64 k, .int .i64 v]) ∧ Rd B b (q + 6) w' ∧ Kb b w w'
theorem spec_l91Val (B b q : Nat) (w : World) (h : Rd B b q w) (hq : q ≤ 10000000) :
    Calls Try.prog 43 #[.pointer (some ⟨b, 0, none⟩)] w (ValPost B b q w) := by
  have H := Lib.hid h
  clear h
  go_enter Try.func43, Try.ntmps43
  go_wp2_with fail
  refine (spec_pick B b q 3 w H.out (by omega)).mono ?_
  rintro e w1 ⟨v, ⟨hv1, hv2, -⟩, rfl, r1, k1, s1⟩
  have R1 := Lib.hid r1
  have K1 := Lib.hid k1
  clear r1 k1 s1
  have hv2 := hv2 (by omega)
  have ml := Fp.tmost_le (1 + v)
  go_wp2_with fail
  refine (spec_l11Most _ _ (tk_add hv1 hv2)).mono ?_
  rintro e w2 ⟨rfl, b2⟩
  have R2 := Lib.hid (R1.out.keep b2)
  have K2 := Lib.hid (K1.out.trans (Kb.of_below b2))
  clear b2
  go_wp2_with fail
  refine (spec_pick B b (q + 1) _ _ R2.out (by omega)).mono ?_
  rintro e w3 ⟨u, ⟨hu1, hu2, -⟩, rfl, r3, k3, s3⟩
  have hu2 := hu2 (by omega)
  have R3 := Lib.hid r3
  have K3 := Lib.hid (K2.out.trans k3)
  clear r3 k3 s3
  go_wp2_with fail
  refine (spec_pick B b (q + 2) 30 _ R3.out (by omega)).mono ?_
  rintro e w4 ⟨d, ⟨hd1, hd2, -⟩, rfl, r4, k4, s4⟩
  have R4 := Lib.hid r4
  have K4 := Lib.hid (K3.out.trans k4)
  clear r4 k4 s4
  by_cases h0 : d = 0
  · subst h0
    go_wp2_with fail
    refine (spec_l91Kind B b (q + 3) _ R4.out (by omega)).mono ?_
    rintro e w5 ⟨k, hk1, hk2, rfl, r5, k5⟩
    have R5 := Lib.hid r5
    have K5 := Lib.hid (K4.out.trans k5)
    clear r5 k5
    go_wp2_with fail
    refine (spec_pick B b (q + 5) 10 _ R5.out (by omega)).mono ?_
    rintro e w6 ⟨y, ⟨hy1, hy2, -⟩, rfl, r6, k6, s6⟩
    have R6 := Lib.hid r6
    have K6 := Lib.hid (K5.out.trans k6)
    clear r6 k6 s6
    go_wp2
    go_ret2
    exact ⟨_, _, hk1, hk2, by omega, by omega, rfl, R6.out.mono (by omega), K6.out⟩
  · have h0b : (d == 0) = false := beqF h0
    clear h0
    go_wp2
    go_ret2
    exact ⟨_, _, by omega, by omega, by omega, by omega, rfl, R4.out.mono (by omega), K4.out⟩
def DrawnVal (w : World) (e : Ending) (w' : World) : Prop := ∃ k v : Int, 0 ≤ k ∧ k ≤ 4 ∧ -1 ≤ v ∧ v ≤ 8 ∧ e = .returned (.tuple #[.int .i64 k, .int .i64 v]) ∧ Below w.heap.size w w'
theorem spec_DrawTypeMake (a : Option Addr) (len cap : Nat) (w : World) (hb : Bys w.heap.size w a len) (hc : len ≤ cap) (hm : cap ≤ maxLen) :
    Calls Try.prog 19 #[.slice a len cap] w (DrawnVal w) := by
  have Hb := Lib.hid hb
  clear hb
  go_enter Try.func19, Try.ntmps19
  go_wp2_with fail
  refine (spec_l6Open w.heap.size a len cap w (Nat.le_refl _) Hb.out hc hm).mono ?_
  rintro e w1 ⟨rfl, r1, b1, s1⟩
  have R1 := Lib.hid r1
  have B1 := Lib.hid b1
  have S1 := Lib.hid s1
  clear r1 b1 s1
  go_wp2_with fail
  refine (spec_l91Val w.heap.size w.heap.size 0 w1 R1.out (by omega)).mono ?_
  rintro e w2 ⟨k, v, k1, k2, v1, v2, rfl, r2, kb2⟩
  have K2 := Lib.hid kb2
  clear r2 kb2
  go_wp2
  go_ret2
  exact ⟨_, _, k1, k2, v1, v2, rfl, B1.out.trans (K2.out.below (by have := S1.out; omega) (Nat.le_refl _))⟩
def VecPost (B b q : Nat) (w : World) (e : Ending) (w' : World) : Prop := ∃ (k : Int) (a : Option Addr) (n cap : Nat) (zs : List Int), 0 ≤ k ∧ k ≤ 4 ∧ n ≤ 5 ∧ e = .returned (.tuple #[.int .i64 k, .slice a n cap]) ∧ Own w.heap.size w'.heap.size w' a n cap zs ∧ Rd B b (q + 20) w' ∧ Kb b w w'
set_option maxHeartbeats 1000000 in
theorem spec_l91Vec (B b q : Nat) (w : World) (h : Rd B b q w) (hq : q ≤ 1000000) :
    Calls Try.prog 40 #[.pointer (some ⟨b, 0, none⟩)] w (VecPost B b q w) := by
  have H := Lib.hid h
  have hbw := h.inb
  clear h
  go_enter Try.func40, Try.ntmps40
  go_wp2_with fail
  refine (spec_pick B b q 3 w H.out (by omega)).mono ?_
  rintro e w1 ⟨v, ⟨hv1, hv2, -⟩, rfl, r1, k1, s1⟩
  have R1 := Lib.hid r1
  have K1 := Lib.hid k1
  clear r1 k1 s1
  have hv2 := hv2 (by omega)
  have hk := tk_add hv1 hv2
  have ml := Fp.tmost_le (1 + v)
  have tl := Fp.tlen_le (1 + v)
  have tp := Fp.tlen_pos hk
  go_wp2_with fail
  refine (spec_l11Most _ _ hk).mono ?_
  rintro e w2 ⟨rfl, b2⟩
  have R2 := Lib.hid (R1.out.keep b2)
  have K2 := Lib.hid (K1.out.trans (Kb.of_below b2))
  clear b2 R1 K1
  go_wp2_with fail
  refine (spec_pick B b (q + 1) _ _ R2.out (by omega)).mono ?_
  rintro e w3 ⟨u, ⟨hu1, hu2, -⟩, rfl, r3, k3, s3⟩
  have hu2 := hu2 (by omega)
  have R3 := Lib.hid r3
  have K3 := Lib.hid (K2.out.trans k3)
  clear r3 k3 s3 R2 K2
  obtain ⟨x, rfl⟩ := Int.eq_ofNat_of_zero_le hu1
  go_wp2_with fail
  refine (spec_l11Make _ x _ hk (by omega)).mono ?_
  rintro e w4 ⟨a4, n4, c4, rfl, o4, b4⟩
  have n4p : 0 < n4 := by rw [← o4.len, Fp.tenc_len]; exact tp
  have n4l : n4 ≤ 4 := by rw [← o4.len, Fp.tenc_len]; exact tl
  clear tp tl
  have Z3 := Lib.hid K3.out.size
  have O4 := Lib.hid (o4.more Z3.out (Nat.le_refl _))
  have R4 := Lib.hid (R3.out.keep b4)
  have K4 := Lib.hid (K3.out.trans (Kb.of_below b4))
  clear o4 b4 R3 K3
  generalize Fp.tenc (1 + v) x = zs at O4
  go_wp2_with fail
  refine (spec_pick B b (q + 2) 4 _ R4.out (by omega)).mono ?_
  rintro e w5 ⟨d, ⟨hd1, hd2, -⟩, rfl, r5, k5, s5⟩
  have O5 := Lib.hid (O4.out.kb k5 hbw)
  have R5 := Lib.hid r5
  have K5 := Lib.hid (K4.out.trans k5)
  have S5 := Lib.hid s5
  clear r5 k5 s5 O4 R4 K4
  by_cases h0 : d = 0
  · subst h0
    go_wp2_with fail
    refine (spec_pick B b (q + 3) _ _ R5.out (by omega)).mono ?_
    rintro e w6 ⟨j, ⟨hj1, hj2, -⟩, rfl, r6, k6, s6⟩
    have hj2 := hj2 (by omega)
    obtain ⟨j, rfl⟩ := Int.eq_ofNat_of_zero_le hj1
    have O6 := Lib.hid (O5.out.kb k6 hbw)
    have R6 := Lib.hid r6
    have K6 := Lib.hid (K5.out.trans k6)
    clear r6 k6 s6 O5 R5 K5
    go_wp2_with fail
    refine (spec_pick B b (q + 4) 31 _ R6.out (by omega)).mono ?_
    rintro e w7 ⟨y, ⟨hy1, hy2, -⟩, rfl, r7, k7, s7⟩
    have O7 := Lib.hid (O6.out.kb k7 hbw)
    have R7 := Lib.hid r7
    have K7 := Lib.hid (K6.out.trans k7)
    clear r7 k7 s7 O6 R6 K6
    go_wp2_with fail
    refine (spec_pick B b (q + 5) 5 _ (R7.out.keep ((Below.refl _ _).alloc (Nat.le_refl _) _)) (by omega)).mono ?_
    rintro e w8 ⟨i, ⟨hi1, hi2, -⟩, rfl, r8, k8, s8⟩
    have hi2 := hi2 (by omega)
    obtain ⟨i, rfl⟩ := Int.eq_ofNat_of_zero_le hi1
    obtain ⟨c, hci⟩ := five_at k8 R7.out.inb (i := i) (by omega)
    have o8 := (O7.out.alloc _).kb k8 hbw
    have R8 := Lib.hid r8
    have K8 := Lib.hid ((K7.out.alloc _).trans k8)
    clear r8 k8 s8 O7 R7 K7
    obtain ⟨bb, off, z, rfl, hlo, hhi, hcz, hf, -⟩ := o8.get (k := j) (by omega)
    have O8 := Lib.hid (o8.set (show j < n4 by omega) c)
    have R9 := Lib.hid (R8.out.keepB (base := w.heap.size) ((Below.refl _ _).setCell (p := ⟨bb, off + j, none⟩) hlo (.int .i64 c)) hbw)
    have K9 := Lib.hid (K8.out.then ((Below.refl _ _).setCell (p := ⟨bb, off + j, none⟩) hlo (.int .i64 c)))
    clear o8
    go_wp2
    go_ret2
    exact ⟨_, _, _, _, _, by omega, by omega, by omega, rfl, O8.out.lt, R9.out.mono (by omega), K9.out⟩
  · have h0b : (d == 0) = false := beqF h0
    by_cases h1 : d = 1
    · subst h1
      go_wp2_with fail
      refine (spec_pick B b (q + 3) 6 _ R5.out (by omega)).mono ?_
      rintro e w6 ⟨y, ⟨hy1, hy2, -⟩, rfl, r6, k6, s6⟩
      have O6 := Lib.hid (O5.out.kb k6 hbw)
      have R6 := Lib.hid r6
      have K6 := Lib.hid (K5.out.trans k6)
      clear r6 k6 s6 O5 R5 K5
      by_cases hy : y = 0
      · subst hy
        clear O6
        go_wp2_with fail
        refine (spec_l91Kind B b (q + 4) _ R6.out (by omega)).mono ?_
        rintro e w7 ⟨k, hk1, hk2, rfl, r7, k7⟩
        have R7 := Lib.hid r7
        have K7 := Lib.hid (K6.out.trans k7)
        have Z7 := Lib.hid K7.out.size
        clear r7 k7 R6 K6
        go_wp2_with fail
        refine (spec_l91List B b (q + 6) 5 _ R7.out (by omega) (by omega)).mono ?_
        rintro e w8 ⟨a8, n8, c8, ys, l8, rfl, o8, r8, k8⟩
        have O8 := Lib.hid (o8.more Z7.out (Nat.le_refl _))
        have R8 := Lib.hid r8
        have K8 := Lib.hid (K7.out.trans k8)
        clear r8 k8 o8
        go_wp2
        go_ret2
        exact ⟨_, _, _, _, _, hk1, hk2, l8, rfl, O8.out, R8.out.mono (by omega), K8.out⟩
      · have hyb : (y == 0) = false := beqF hy
        clear hy h0
        go_wp2
        go_ret2
        exact ⟨_, _, _, _, _, by omega, by omega, by omega, rfl, O6.out.lt, R6.out.mono (by omega), K6.out⟩
    · have h1b : (d == 1) = false := beqF h1
      clear h0 h1
      go_wp2
      go_ret2
      exact ⟨_, _, _, _, _, by omega, by omega, by omega, rfl, O5.out.lt, R5.out.mono (by omega), K5.out⟩
def DrawnVec (w : World) (e : Ending) (w' : World) : Prop := ∃ (k : Int) (a : Option Addr) (n cap : Nat) (zs : List Int), 0 ≤ k ∧ k ≤ 4 ∧ n ≤ 5 ∧ e = .returned (.tuple #[.int .i64 k, .slice a n cap]) ∧ Own w.heap.size w'.heap.size w' a n cap zs ∧ Below w.heap.size w w'
def DrawnVecAt (w : World) (e : Ending) (w' : World) : Prop := ∃ (k : Int) (a : Option Addr) (n cap : Nat) (zs : List Int) (x : Int), 0 ≤ k ∧ k ≤ 4 ∧ n ≤ 5 ∧ -1 ≤ x ∧ x ≤ 31 ∧ e = .returned (.tuple #[.int .i64 k, .slice a n cap, .int .i64 x]) ∧ Own w.heap.size w'.heap.size w' a n cap zs ∧ Below w.heap.size w w'
theorem spec_DrawTypeCheck (a : Option Addr) (len cap : Nat) (w : World) (hb : Bys w.heap.size w a len) (hc : len ≤ cap) (hm : cap ≤ maxLen) :
    Calls Try.prog 15 #[.slice a len cap] w (DrawnVecAt w) := by
  have Hb := Lib.hid hb
  clear hb
  go_enter Try.func15, Try.ntmps15
  go_wp2_with fail
  refine (spec_l6Open w.heap.size a len cap w (Nat.le_refl _) Hb.out hc hm).mono ?_
  rintro e w1 ⟨rfl, r1, b1, s1⟩
  have R1 := Lib.hid r1
  have B1 := Lib.hid b1
  have S1 := Lib.hid s1
  clear r1 b1 s1
  go_wp2_with fail
  refine (spec_l91Vec w.heap.size w.heap.size 0 w1 R1.out (by omega)).mono ?_
  rintro e w2 ⟨k, a2, n2, c2, zs, k1, k2, l2, rfl, o2, r2, kb2⟩
  have O2 := Lib.hid (o2.more (show w.heap.size + 1 ≤ w1.heap.size by have := S1.out; omega) (Nat.le_refl _))
  have R2 := Lib.hid r2
  have K2 := Lib.hid kb2
  clear r2 kb2 o2
  go_wp2_with fail
  refine (spec_l91Num w.heap.size w.heap.size _ w2 R2.out (by omega)).mono ?_
  rintro e w3 ⟨x, x1, x2, rfl, r3, k3⟩
  have O3 := Lib.hid ((O2.out.kb k3 (Nat.lt_succ_self _)).more (lo' := w.heap.size) (hi' := w3.heap.size) (by omega) k3.size)
  have K3 := Lib.hid (K2.out.trans k3)
  clear r3 k3
  go_wp2
  go_ret3
  exact ⟨_, _, _, _, _, _, k1, k2, l2, x1, x2, rfl, O3.out, B1.out.trans (K3.out.below (by have := S1.out; omega) (Nat.le_refl _))⟩
end Go.Proofs.Ytlfmginnffdicaa
