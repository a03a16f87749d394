/-
  Chapter 31: the laws' helpers, and the draws.
-/
import Derived.Test.YtgiilckfenemmabFrf
import Derived.Test.YtgiilckfenemmabDraw
namespace Go.Proofs.Ytgiilckfenemmab
open Go.RowKit
set_option linter.unusedVariables false
set_option linter.unusedSimpArgs false
set_option maxRecDepth 20000
theorem laws_toFrac (n d : Int) (w : World) :
    Calls Try.prog 16 #[.agg #[.int .i64 n, .int .i64 d]] w (Bel (.agg #[.int .i64 n, .int .i64 d]) w) := by
  go_enter Try.func16, Try.ntmps16
  go_wp2
  exact bodyPost_ret (v := .agg #[.int .i64 n, .int .i64 d]) (by simp [results, Try.results16, go_sem]) rfl ⟨rfl, (((Below.refl _ _).alloc (Nat.le_refl _) _).alloc (by simp) _).alloc (by simp; omega) _⟩
theorem laws_eqFrac (a b c d : Int) (w : World) :
    Calls Try.prog 14 #[.agg #[.int .i64 a, .int .i64 b], .agg #[.int .i64 c, .int .i64 d]] w (Bel (.bool (a == c && b == d)) w) := by
  obtain ⟨w1, w2, hw1, hw2, Z1, Z2, P0⟩ := pair_box w a b c d 29
  obtain ⟨c0, c1, c2, c3⟩ := P0.at
  have P := Lib.hid P0
  clear P0
  by_cases h1 : a = c
  · by_cases h2 : b = d
    · subst h1 h2
      have e1 : (a != a) = false := by simp
      have e2 : (b != b) = false := by simp
      go_enter Try.func14, Try.ntmps14
      go_wp2
      go_ret
      exact ⟨by simp, P.out.bel⟩
    · subst h1
      have e1 : (a != a) = false := by simp
      have e2 : (b != d) = true := by simp [h2]
      have HH := Lib.hid h2
      clear h2
      go_enter Try.func14, Try.ntmps14
      go_wp2
      go_ret
      exact ⟨by have := HH.out; simp [this], P.out.bel⟩
  · have e1 : (a != c) = true := by simp [h1]
    have HH := Lib.hid h1
    clear h1
    go_enter Try.func14, Try.ntmps14
    go_wp2
    go_ret
    exact ⟨by have := HH.out; simp [this], P.out.bel⟩
end Go.Proofs.Ytgiilckfenemmab
