/-
  Chapter 31: the laws' helpers, and the draws.
-/
import Derived.Test.YtigeffgehckbpabFrf
import Derived.Test.YtigeffgehckbpabDraw
namespace Go.Proofs.Ytigeffgehckbpab
open Go.RowKit
set_option linter.unusedVariables false
set_option linter.unusedSimpArgs false
set_option maxRecDepth 20000
def FracPost (B b q : Nat) (w : World) (e : Ending) (w' : World) : Prop := ∃ x y : Int, e = .returned (.agg #[.int .i64 x, .int .i64 y]) ∧ Rd B b (q + 5) w' ∧ Kb b w w'
set_option maxHeartbeats 1000000 in
theorem spec_l92Frac (B b q : Nat) (w : World) (h : Rd B b q w) (hq : q ≤ 100000000) :
    Calls Try.prog 33 #[.pointer (some ⟨b, 0, none⟩)] w (FracPost B b q w) := by
  have hbw := h.inb
  obtain ⟨w0, hw0, Z0, B0, T0⟩ := duo_box w 0 0 24
  have H := Lib.hid (h.keep B0)
  have T := Lib.hid T0
  have K := Lib.hid (Kb.of_below (b := b) B0)
  clear h B0 T0
  go_enter Try.func33, Try.ntmps33
  go_wp2_with fail
  refine (spec_pick B b q 12 w0 H.out (by omega)).mono ?_
  rintro e w1 ⟨v, ⟨hv1, hv2, -⟩, rfl, r1, k1, s1⟩
  have T1 := Lib.hid (T.out.kb k1 (by omega))
  have K1 := Lib.hid (K.out.trans k1)
  have R1 := Lib.hid r1
  clear r1 k1 hw0
  go_wp2_with fail
  refine (spec_pick B b (q + 1) 12 w1 R1.out (by omega)).mono ?_
  rintro e w2 ⟨u, ⟨hu1, hu2, -⟩, rfl, r2, k2, s2⟩
  have T2 := Lib.hid (T1.out.kb k2 (by omega))
  have K2 := Lib.hid (K1.out.trans k2)
  have R2 := Lib.hid r2
  clear r2 k2
  have hv3 := hv2 (by omega)
  have hu3 := hu2 (by omega)
  obtain ⟨n, rfl⟩ := Int.eq_ofNat_of_zero_le hv1
  obtain ⟨m, rfl⟩ := Int.eq_ofNat_of_zero_le hu1
  clear hv2 hu2
  go_wp2_with fail
  refine (spec_l31Of' _ _ n (m + 1) w2 rfl (by omega) (by omega) (by omega) (by omega)).mono ?_
  rintro e w3 ⟨rfl, b3⟩
  obtain ⟨w4, hw4, Z4, B4, T4⟩ := duo_box w3 (Fr.num n (m + 1)) (Fr.den n (m + 1)) 24
  have Z3 := b3.size
  have T5 := Lib.hid ((T2.out.below b3 (by omega)).below B4 (by omega))
  have K5 := Lib.hid ((K2.out.trans (Kb.of_below b3)).trans (Kb.of_below B4))
  have R5 := Lib.hid ((R2.out.keep b3).keep B4)
  have V := Lib.hid T4
  obtain ⟨d0, d1, -, -⟩ := duo_at T4
  clear b3 B4 T4
  go_wp2_with fail
  refine (spec_pick B b (q + 2) 30 w4 R5.out (by omega)).mono ?_
  rintro e w6 ⟨s, ⟨hs1, hs2, -⟩, rfl, r6, k6, s6⟩
  have T6 := Lib.hid (T5.out.kb k6 (by omega))
  have V6 := Lib.hid (V.out.kb k6 (by omega))
  have K6 := Lib.hid (K5.out.trans k6)
  have R6 := Lib.hid r6
  clear r6 k6 d0 d1 hw4
  by_cases h0 : s = 0
  · subst h0
    go_wp2_with fail
    refine (spec_pick B b (q + 3) 9 w6 R6.out (by omega)).mono ?_
    rintro e w7 ⟨x, hx, rfl, r7, k7, s7⟩
    have T7 := Lib.hid (T6.out.kb k7 (by omega))
    have K7 := Lib.hid (K6.out.trans k7)
    have R7 := Lib.hid r7
    clear r7 k7 hx
    go_wp2_with fail
    refine (spec_pick B b (q + 4) 70 w7 R7.out (by omega)).mono ?_
    rintro e w8 ⟨y, hy, rfl, r8, k8, s8⟩
    obtain ⟨e0, e1, f0, f1⟩ := duo_at (T7.out.kb k8 (by omega))
    have K8 := Lib.hid (K7.out.trans k8)
    have R8 := Lib.hid r8
    clear r8 k8 hy
    go_wp2
    refine bodyPost_ret (v := .agg #[.int .i64 x, .int .i64 y]) (by simp [results, Try.results33, go_sem, e0, e1]) rfl ⟨x, y, rfl, ?_, (K8.out.setNew (by simp) _).setNew (by simp) _⟩
    exact ((R8.out.mono (by omega)).keepB ((((Below.refl w.heap.size _)).setCell (by simp) _).setCell (by simp) _) hbw)
  · have hs : (s == 0) = false := beqF h0
    obtain ⟨e0, e1, f0, f1⟩ := duo_at T6.out
    obtain ⟨d0, d1, -, -⟩ := duo_at V6.out
    clear h0
    go_wp2
    refine bodyPost_ret (v := .agg #[.int .i64 (Fr.num n (m + 1) : Int), .int .i64 (Fr.den n (m + 1) : Int)]) (by simp [results, Try.results33, go_sem, e0, e1]) rfl ⟨_, _, rfl, ?_, (K6.out.setNew (by simp) _).setNew (by simp) _⟩
    exact ((R6.out.mono (by omega)).keepB ((((Below.refl w.heap.size _)).setCell (by simp) _).setCell (by simp) _) hbw)
end Go.Proofs.Ytigeffgehckbpab
