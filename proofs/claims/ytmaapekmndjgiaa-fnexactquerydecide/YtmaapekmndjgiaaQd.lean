/-
  Chapter 13: deciding on two answers: of the program and of the model.
-/
import Derived.Test.YtmaapekmndjgiaaShs
import Derived.BigQuiet
namespace Go.Proofs.Ytmaapekmndjgiaa
open Go.RowKit
set_option linter.unusedVariables false
set_option linter.unusedSimpArgs false
set_option maxRecDepth 20000
namespace Fp
/-- Both answers together. -/
def qsum (xs ys : List Int) : List Int := (List.range 4).map fun i => sum (xs.getD i 0) (ys.getD i 0)
def qdec (xs ys : List Int) : Bool := sok xs && sok ys && decide (xs.length = 4) && decide (ys.length = 4) && ((mul ((qsum xs ys).getD 0 0) ((qsum xs ys).getD 1 0) == (qsum xs ys).getD 2 0) && ((qsum xs ys).getD 3 0 == 0))
theorem qsum_get {xs ys : List Int} {k : Nat} (h : k < 4) : (qsum xs ys).getD k 0 = sum (xs.getD k 0) (ys.getD k 0) := by
  simp [qsum, List.getD_eq_getElem?_getD, List.getElem?_map, List.getElem?_range h]
theorem qsum_len (xs ys : List Int) : (qsum xs ys).length = 4 := by simp [qsum]
end Fp
/-- An array of four that the call has just made. -/
theorem own_four (lo : Nat) (w : World) (t : TypeId) (hlo : lo ≤ w.heap.size) : Own lo (w.heap.size + 1) (w.alloc (.cells #[.int .i64 0, .int .i64 0, .int .i64 0, .int .i64 0] t)) (some ⟨w.heap.size, 0, none⟩) 4 4 (List.replicate 4 0) :=
  own_boxed lo w t (List.replicate 4 0) hlo (by unfold maxLen; simp)
def FilPost (w0 : World) (g : Nat) (xs ys : List Int) (e : Ending) (w' : World) : Prop := e = .returned (.tuple #[]) ∧ Below w0.heap.size w0 w' ∧ Own g (g + 1) w' (some ⟨g, 0, none⟩) 4 4 (Fp.qsum xs ys)
theorem fil_done {lo hi : Nat} {w : World} {p : Option Addr} {xs ys : List Int} (h : Own lo hi w p 4 4 (fill (List.replicate 4 0) (fun j => Fp.sum (xs.getD j 0) (ys.getD j 0)) 4)) : Own lo hi w p 4 4 (Fp.qsum xs ys) := by
  have e := fill_all (zs := List.replicate 4 (0 : Int)) (ys := Fp.qsum xs ys) (f := fun j => Fp.sum (xs.getD j 0) (ys.getD j 0)) (by rw [Fp.qsum_len]; simp) (fun i hi => by rw [Fp.qsum_get (by simp at hi; omega)])
  rw [List.length_replicate] at e
  rwa [e] at h
set_option maxHeartbeats 1000000 in
theorem impl_fill_plus (w0 : World) (g : Nat) (a a' : Option Addr) (cap cap' : Nat) (xs ys : List Int) (w : World) (B0 : Below w0.heap.size w0 w) (hg : w0.heap.size ≤ g) (O : Own g (g + 1) w (some ⟨g, 0, none⟩) 4 4 (List.replicate 4 0)) (h : Sl w0 a 4 xs) (h' : Sl w0 a' 4 ys) (hx : Fp.sok xs = true) (hy : Fp.sok ys = true) :
    Calls Try.prog 11 #[.slice (some ⟨g, 0, none⟩) 4 4, .func (.func 12) #[] #[], .slice a 4 cap, .slice a' 4 cap'] w (FilPost w0 g xs ys) := by
  have H := Lib.hid h
  have H' := Lib.hid h'
  have OO := Lib.hid O
  have BB := Lib.hid B0
  clear h h' O B0
  go_enter Try.func11, Try.ntmps11
  go_wp2
  go_loopw [11] (fun i wr => ∃ k : Nat, k ≤ 4 ∧ i = .int .i64 k ∧ Hid (Own g (g + 1) wr (some ⟨g, 0, none⟩) 4 4 (fill (List.replicate 4 0) (fun j => Fp.sum (xs.getD j 0) (ys.getD j 0)) k)) ∧ Hid (Below w0.heap.size w0 wr)) (fun i _ => 4 - (intOf i).toNat)
  case atStart => exact ⟨0, by omega, rfl, OO.out, BB.out⟩
  case round =>
    clear OO BB
    obtain ⟨k, hk, rfl, hO, hB⟩ := hrel
    by_cases hlt : k < 4
    · obtain ⟨b, off, x, rfl, hc, hz⟩ := (H.out.below hB.out).get hlt
      obtain ⟨b', off', y, rfl, hc', hz'⟩ := (H'.out.below hB.out).get hlt
      obtain ⟨hlo, hhi, z', hcz, hfz, -⟩ := hO.out.get0 hlt
      have xo : Fp.ok x = true := by rw [hz.out]; exact Fp.sok_get hx k
      have yo : Fp.ok y = true := by rw [hz'.out]; exact Fp.sok_get hy k
      have EV := Lib.hid (show (x + y) % 31 = Fp.sum (xs.getD k 0) (ys.getD k 0) by rw [← hz.out, ← hz'.out, Fp.sum_eq xo yo])
      have O2 := Lib.hid (hO.out.set0 hlt (Fp.sum (xs.getD k 0) (ys.getD k 0)))
      have B2 := Lib.hid (hB.out.setCell (p := ⟨g, k, none⟩) hg (.int .i64 ((x + y) % 31)))
      have i0 : (0 : Int) ≤ (k : Int) := by omega
      have i1 : (k : Int) < 4 := by omega
      go_wp2
      go_still_tail 13, (by kernel_rfl)
      still_call (quiet_l (impl_plus _ _ _ xo yo))
      repeat still_step
      refine wpStill_nil ?_
      change wpList _ _ _ _ _ wr.drew
      go_wp2
      go_roundw
      case rel => exact ⟨k + 1, by omega, by go_num, by show Own _ _ _ _ _ _ _; rw [EV.out]; first | exact O2.out.drew | (have := O2.out.drew; simpa [fill, World.setCell] using this), B2.out.drew⟩
      case measure => simp [intOf]; omega
    · have e : k = 4 := by omega
      subst e
      go_wp2
      go_end0
      exact ⟨rfl, hB.out, fil_done hO.out⟩
theorem qdec_a {xs ys : List Int} (h : xs.length ≠ 4) : Fp.qdec xs ys = false := by simp [Fp.qdec, h]
theorem qdec_b {xs ys : List Int} (h : ys.length ≠ 4) : Fp.qdec xs ys = false := by simp [Fp.qdec, h]
theorem qdec_c {xs ys : List Int} (h : Fp.sok xs = false) : Fp.qdec xs ys = false := by simp [Fp.qdec, h]
theorem qdec_d {xs ys : List Int} (h : Fp.sok ys = false) : Fp.qdec xs ys = false := by simp [Fp.qdec, h]
theorem qdec_e {xs ys : List Int} (h1 : xs.length = 4) (h2 : ys.length = 4) (h3 : Fp.sok xs = true) (h4 : Fp.sok ys = true) : Fp.qdec xs ys = ((Fp.mul ((Fp.qsum xs ys).getD 0 0) ((Fp.qsum xs ys).getD 1 0) == (Fp.qsum xs ys).getD 2 0) && ((Fp.qsum xs ys).getD 3 0 == 0)) := by simp [Fp.qdec, h1, h2, h3, h4]
set_option maxHeartbeats 1000000 in
theorem impl_QueryDecide (a a' : Option Addr) (n n' cap cap' : Nat) (xs ys : List Int) (w : World) (h : Sl w a n xs) (h' : Sl w a' n' ys) :
    Calls Try.prog 6 #[.slice a n cap, .slice a' n' cap'] w (Bel (.bool (Fp.qdec xs ys)) w) := by
  have H := Lib.hid h
  have H' := Lib.hid h'
  have L := Lib.hid h.len
  have L' := Lib.hid h'.len
  clear h h'
  by_cases h1 : n = 4
  · by_cases h2 : n' = 4
    · subst h1 h2
      have P := fun W hW => impl_ShareOk a 4 cap xs W hW
      have Q := fun W hW => impl_ShareOk a' 4 cap' ys W hW
      cases hx : Fp.sok xs
      · rw [qdec_c hx]
        rw [hx] at P
        go_enter Try.func6, Try.ntmps6
        go_wp2_with (first | (go_at_call 10; refine (P _ H.out).mono ?_; rintro e w' ⟨rfl, rfl⟩))
        go_ret
        exact ⟨rfl, Below.refl _ _⟩
      cases hy : Fp.sok ys
      · rw [qdec_d hy]
        rw [hx] at P
        rw [hy] at Q
        go_enter Try.func6, Try.ntmps6
        go_wp2_with fail
        refine (P _ H.out).mono ?_
        rintro e w' ⟨rfl, rfl⟩
        go_wp2_with fail
        refine (Q _ H'.out).mono ?_
        rintro e w' ⟨rfl, rfl⟩
        go_wp2
        go_ret
        exact ⟨rfl, Below.refl _ _⟩
      · rw [qdec_e L.out L'.out hx hy]
        rw [hx] at P
        rw [hy] at Q
        have hsl : ∀ W, (Instr.sliceAt 27 (.pointer (some ⟨w.heap.size, 0, none⟩)) none none none).run Try.prog W = .ok (.slice (some ⟨w.heap.size, 0, none⟩) 4 4) W := fun _ => by kernel_rfl
        have O0 := Lib.hid (own_four w.heap.size w 27 (Nat.le_refl _))
        have B0 := Lib.hid ((Below.refl w.heap.size w).alloc (Nat.le_refl _) (.cells #[.int .i64 0, .int .i64 0, .int .i64 0, .int .i64 0] 27))
        go_enter Try.func6, Try.ntmps6
        go_wp2_with fail
        refine (P _ H.out).mono ?_
        rintro e w' ⟨rfl, rfl⟩
        go_wp2_with fail
        refine (Q _ H'.out).mono ?_
        rintro e w' ⟨rfl, rfl⟩
        go_wp2_with fail
        refine (impl_fill_plus w w.heap.size a a' cap cap' xs ys _ B0.out (Nat.le_refl _) O0.out H.out H'.out hx hy).mono ?_
        rintro e w1 ⟨rfl, b1, o1⟩
        have B1 := Lib.hid b1
        obtain ⟨-, -, s0, k0, -, g0⟩ := o1.get0 (show 0 < 4 by omega)
        obtain ⟨-, -, s1, k1, -, g1⟩ := o1.get0 (show 1 < 4 by omega)
        obtain ⟨-, -, s2, k2, -, g2⟩ := o1.get0 (show 2 < 4 by omega)
        obtain ⟨-, -, s3, k3, -, g3⟩ := o1.get0 (show 3 < 4 by omega)
        have QE := Lib.hid (show ((Fp.mul ((Fp.qsum xs ys).getD 0 0) ((Fp.qsum xs ys).getD 1 0) == (Fp.qsum xs ys).getD 2 0) && ((Fp.qsum xs ys).getD 3 0 == 0)) = ((Fp.mul s0 s1 == s2) && (s3 == 0)) by rw [g0.out, g1.out, g2.out, g3.out])
        clear b1 o1 g0 g1 g2 g3 P Q O0 B0
        cases hm : (Fp.mul s0 s1 == s2)
        · go_wp2
          go_quiet (first | (go_at_call 13; exact Calls.quiet_of_same (quiet_l (impl_FieldMul _ _ _))))
          go_wp2
          go_ret
          exact ⟨by rw [QE.out, hm]; rfl, below_drewN B1.out _⟩
        · go_wp2
          go_quiet (first | (go_at_call 13; exact Calls.quiet_of_same (quiet_l (impl_FieldMul _ _ _))))
          go_wp2
          go_ret
          exact ⟨by rw [QE.out, hm]; rfl, below_drewN B1.out _⟩
    · rw [qdec_b (by rw [L'.out]; exact h2)]
      have n1 : ¬ (n' : Int) = 4 := by omega
      have n2 : ((n' : Int) != 4) = true := by simpa using n1
      go_enter Try.func6, Try.ntmps6
      go_wp2
      go_ret
      exact ⟨rfl, Below.refl _ _⟩
  · rw [qdec_a (by rw [L.out]; exact h1)]
    have n1 : ¬ (n : Int) = 4 := by omega
    have n2 : ((n : Int) != 4) = true := by simpa using n1
    go_enter Try.func6, Try.ntmps6
    go_wp2
    go_ret
    exact ⟨rfl, Below.refl _ _⟩
set_option maxHeartbeats 1000000 in
theorem spec_l13Decide (a a' : Option Addr) (cap cap' : Nat) (xs ys : List Int) (w : World) (h : Sl w a 4 xs) (h' : Sl w a' 4 ys) :
    Calls Try.prog 9 #[.slice a 4 cap, .slice a' 4 cap'] w (Bel (.bool ((Fp.mul ((Fp.qsum xs ys).getD 0 0) ((Fp.qsum xs ys).getD 1 0) == (Fp.qsum xs ys).getD 2 0) && ((Fp.qsum xs ys).getD 3 0 == 0))) w) := by
  go_enter Try.func9, Try.ntmps9
  go_wp2_with fail
  refine (spec_l3Sum a a' 4 4 cap cap' xs ys w h h' (Nat.le_refl _) (by omega)).mono ?_
  rintro e w1 ⟨a1, n1, c1, rfl, o1, b1⟩
  have en : n1 = 4 := by rw [← o1.len]; simp [Lift.zipN]
  subst en
  have B1 := Lib.hid b1
  have EZ : Lift.zipN Fp.sum xs ys 4 = Fp.qsum xs ys := rfl
  rw [EZ] at o1
  obtain ⟨bb, off, s0, rfl, k0, g0⟩ := o1.sl.get (show 0 < 4 by omega)
  obtain ⟨bb1, off1, s1, e1, k1, g1⟩ := o1.sl.get (show 1 < 4 by omega)
  obtain ⟨bb2, off2, s2, e2, k2, g2⟩ := o1.sl.get (show 2 < 4 by omega)
  obtain ⟨bb3, off3, s3, e3, k3, g3⟩ := o1.sl.get (show 3 < 4 by omega)
  simp only [Option.some.injEq, Addr.mk.injEq, and_true] at e1 e2 e3
  obtain ⟨rfl, rfl⟩ := e1
  obtain ⟨rfl, rfl⟩ := e2
  obtain ⟨rfl, rfl⟩ := e3
  have QE := Lib.hid (show ((Fp.mul ((Fp.qsum xs ys).getD 0 0) ((Fp.qsum xs ys).getD 1 0) == (Fp.qsum xs ys).getD 2 0) && ((Fp.qsum xs ys).getD 3 0 == 0)) = ((Fp.mul s0 s1 == s2) && (s3 == 0)) by rw [g0.out, g1.out, g2.out, g3.out])
  rw [Nat.add_zero] at k0
  clear b1 o1 g0 g1 g2 g3
  cases hm : (Fp.mul s0 s1 == s2)
  · go_wp2
    go_quiet (first | (go_at_call 16; exact Calls.quiet_of_same (quiet_l (spec_FieldMul _ _ _))))
    go_wp2
    go_ret
    exact ⟨by rw [QE.out, hm]; rfl, below_drewN B1.out _⟩
  · go_wp2
    go_quiet (first | (go_at_call 16; exact Calls.quiet_of_same (quiet_l (spec_FieldMul _ _ _))))
    go_wp2
    go_ret
    exact ⟨by rw [QE.out, hm]; rfl, below_drewN B1.out _⟩
set_option maxHeartbeats 2000000 in
theorem spec_QueryDecide (a a' : Option Addr) (n n' cap cap' : Nat) (xs ys : List Int) (w : World) (h : Sl w a n xs) (h' : Sl w a' n' ys) (hm : n ≤ 1048576) (hm' : n' ≤ 1048576) :
    Calls Try.prog 4 #[.slice a n cap, .slice a' n' cap'] w (Bel (.bool (Fp.qdec xs ys)) w) := by
  have H := Lib.hid h
  have H' := Lib.hid h'
  have L := Lib.hid h.len
  have L' := Lib.hid h'.len
  clear h h'
  have P := fun W hW => spec_ShareOk a n cap xs W hW hm
  have Q := fun W hW => spec_ShareOk a' n' cap' ys W hW hm'
  cases hx : Fp.sok xs
  · rw [qdec_c hx]
    rw [hx] at P
    go_enter Try.func4, Try.ntmps4
    go_wp2_with fail
    refine (P _ H.out).mono ?_
    rintro e w' ⟨rfl, rfl⟩
    go_wp2
    go_ret
    exact ⟨rfl, Below.refl _ _⟩
  cases hy : Fp.sok ys
  · rw [qdec_d hy]
    rw [hx] at P
    rw [hy] at Q
    go_enter Try.func4, Try.ntmps4
    go_wp2_with fail
    refine (P _ H.out).mono ?_
    rintro e w' ⟨rfl, rfl⟩
    go_wp2_with fail
    refine (Q _ H'.out).mono ?_
    rintro e w' ⟨rfl, rfl⟩
    go_wp2
    go_ret
    exact ⟨rfl, Below.refl _ _⟩
  rw [hx] at P
  rw [hy] at Q
  by_cases h1 : n = 4
  · by_cases h2 : n' = 4
    · subst h1 h2
      rw [qdec_e L.out L'.out hx hy]
      go_enter Try.func4, Try.ntmps4
      go_wp2_with fail
      refine (P _ H.out).mono ?_
      rintro e w' ⟨rfl, rfl⟩
      go_wp2_with fail
      refine (Q _ H'.out).mono ?_
      rintro e w' ⟨rfl, rfl⟩
      go_wp2_with fail
      refine (spec_l13Decide a a' cap cap' xs ys _ H.out H'.out).mono ?_
      rintro e w1 ⟨rfl, b1⟩
      go_wp2
      go_ret
      exact ⟨rfl, b1⟩
    · subst h1
      rw [qdec_b (by rw [L'.out]; exact h2)]
      have n1 : ¬ (n' : Int) = 4 := by omega
      have n2 : ((n' : Int) == 4) = false := by simpa using n1
      go_enter Try.func4, Try.ntmps4
      go_wp2_with fail
      refine (P _ H.out).mono ?_
      rintro e w' ⟨rfl, rfl⟩
      go_wp2_with fail
      refine (Q _ H'.out).mono ?_
      rintro e w' ⟨rfl, rfl⟩
      go_wp2
      go_ret
      exact ⟨by first | rfl | (simp; done), Below.refl _ _⟩
  · rw [qdec_a (by rw [L.out]; exact h1)]
    have n1 : ¬ (n : Int) = 4 := by omega
    have n2 : ((n : Int) == 4) = false := by simpa using n1
    go_enter Try.func4, Try.ntmps4
    go_wp2_with fail
    refine (P _ H.out).mono ?_
    rintro e w' ⟨rfl, rfl⟩
    go_wp2_with fail
    refine (Q _ H'.out).mono ?_
    rintro e w' ⟨rfl, rfl⟩
    go_wp2
    go_ret
    exact ⟨by first | rfl | (simp; done), Below.refl _ _⟩
end Go.Proofs.Ytmaapekmndjgiaa
