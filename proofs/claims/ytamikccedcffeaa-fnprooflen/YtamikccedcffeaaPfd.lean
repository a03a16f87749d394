/-
  The draws of chapter 12.
-/
import Derived.Test.YtamikccedcffeaaTyd
import Derived.Test.YtamikccedcffeaaPft
namespace Go.Proofs.Ytamikccedcffeaa
open Go.RowKit
set_option linter.unusedVariables false
set_option linter.unusedSimpArgs false
def DrawnPl (w : World) (e : Ending) (w' : World) : Prop := ∃ v : Int, -1 ≤ v ∧ v ≤ 4 ∧ e = .returned (.int .i64 v) ∧ Below w.heap.size w w'
theorem spec_DrawProofLen (a : Option Addr) (len cap : Nat) (w : World) (hb : Bys w.heap.size w a len) (hc : len ≤ cap) (hm : cap ≤ maxLen) :
    Calls Try.prog 7 #[.slice a len cap] w (DrawnPl w) := by
  have Hb := Lib.hid hb
  clear hb
  go_enter Try.func7, Try.ntmps7
  go_wp2_with fail
  refine (spec_l6Open w.heap.size a len cap w (Nat.le_refl _) Hb.out hc hm).mono ?_
  rintro e w1 ⟨rfl, r1, b1, s1⟩
  have R1 := Lib.hid r1
  have B1 := Lib.hid b1
  have S1 := Lib.hid s1
  clear r1 b1 s1
  go_wp2_with fail
  refine (spec_pick w.heap.size w.heap.size 0 6 w1 R1.out (by omega)).mono ?_
  rintro e w2 ⟨m, ⟨m1, m2, -⟩, rfl, r2, k2, s2⟩
  have K2 := Lib.hid k2
  clear r2 k2 s2
  go_wp2
  go_ret
  exact ⟨_, by omega, by omega, rfl, B1.out.trans (K2.out.below (by have := S1.out; omega) (Nat.le_refl _))⟩
end Go.Proofs.Ytamikccedcffeaa
