/-
  The draws of chapter 12.
-/
import Derived.Test.YtamikccedcffeabDoorTyd
import Derived.Test.YtamikccedcffeabDoorPft
namespace Go.Proofs.YtamikccedcffeabDoor
open Go.RowKit
set_option linter.unusedVariables false
set_option linter.unusedSimpArgs false
set_option maxRecDepth 20000
theorem results_tmp4 {fn : Func} {t u v x : Tmp} (h : fn.results = #[.tmp t, .tmp u, .tmp v, .tmp x]) (tmps : Array Value) (P : Program) (w : World) :
    (results fn tmps).run P w = .ok (.tuple #[tmps.getD t undef, tmps.getD u undef, tmps.getD v undef, tmps.getD x undef]) w := by
  simp [results, h]
def DrawnPm (w : World) (e : Ending) (w' : World) : Prop := ∃ (k : Int) (a : Option Addr) (n cap : Nat) (zs : List Int) (x y : Int), 0 ≤ k ∧ k ≤ 4 ∧ n ≤ 5 ∧ -1 ≤ x ∧ x ≤ 31 ∧ -1 ≤ y ∧ y ≤ 31 ∧ e = .returned (.tuple #[.int .i64 k, .slice a n cap, .int .i64 x, .int .i64 y]) ∧ Own w.heap.size w'.heap.size w' a n cap zs ∧ Below w.heap.size w w'
theorem spec_DrawProofMake (a : Option Addr) (len cap : Nat) (w : World) (hb : Bys w.heap.size w a len) (hc : len ≤ cap) (hm : cap ≤ maxLen) :
    Calls Tryd.prog 8 #[.slice a len cap] w (DrawnPm w) := by
  have Hb := Lib.hid hb
  clear hb
  go_enter Tryd.func8, Tryd.ntmps8
  go_wp2_with fail
  refine (spec_l6Open w.heap.size a len cap w (Nat.le_refl _) Hb.out hc hm).mono ?_
  rintro e w1 ⟨rfl, r1, b1, s1⟩
  have R1 := Lib.hid r1
  have B1 := Lib.hid b1
  have S1 := Lib.hid s1
  clear r1 b1 s1
  go_wp2_with fail
  refine (spec_l91Vec w.heap.size w.heap.size 0 w1 R1.out (by omega)).mono ?_
  rintro e w2 ⟨k, a2, n2, c2, zs, k1, k2, l2, rfl, o2, r2, kb2⟩
  have O2 := Lib.hid (o2.more (show w.heap.size + 1 ≤ w1.heap.size by have := S1.out; omega) (Nat.le_refl _))
  have R2 := Lib.hid r2
  have K2 := Lib.hid kb2
  clear r2 kb2 o2
  go_wp2_with fail
  refine (spec_l91Num w.heap.size w.heap.size _ w2 R2.out (by omega)).mono ?_
  rintro e w3 ⟨x, x1, x2, rfl, r3, k3⟩
  have O3 := Lib.hid ((O2.out.kb k3 (Nat.lt_succ_self _)).more (lo' := w.heap.size + 1) (hi' := w3.heap.size) (by omega) k3.size)
  have K3 := Lib.hid (K2.out.trans k3)
  have R3 := Lib.hid r3
  clear r3 k3
  go_wp2_with fail
  refine (spec_l91Num w.heap.size w.heap.size _ w3 R3.out (by omega)).mono ?_
  rintro e w4 ⟨y, y1, y2, rfl, r4, k4⟩
  have O4 := Lib.hid ((O3.out.kb k4 (Nat.lt_succ_self _)).more (lo' := w.heap.size) (hi' := w4.heap.size) (by omega) k4.size)
  have K4 := Lib.hid (K3.out.trans k4)
  clear r4 k4
  go_wp2
  (try simp only [Exit.inBlock, Exit.then])
  refine bodyPost_ret (results_tmp4 rfl _ _ _) rfl ?_
  exact ⟨_, _, _, _, _, _, _, k1, k2, l2, x1, x2, y1, y2, rfl, O4.out, B1.out.trans (K4.out.below (by have := S1.out; omega) (Nat.le_refl _))⟩
end Go.Proofs.YtamikccedcffeabDoor
