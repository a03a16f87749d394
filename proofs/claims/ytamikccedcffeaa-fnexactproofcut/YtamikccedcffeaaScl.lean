/-
  Functions of the library's package slices at []int: Equal, Clone, Grow (of nil), Concat (of three).
-/
import Derived.Test.YtamikccedcffeaaLw
import Derived.Test.YtamikccedcffeaaCat
import Derived.OwnWalk
import Derived.Lib.SliceRun
import Derived.Lib.AppendZerosOnto
import Derived.Deep.QuietTactic
import Derived.BigQuiet
namespace Go.Proofs.Ytamikccedcffeaa
open Go.RowKit
set_option linter.unusedVariables false
set_option linter.unusedSimpArgs false
set_option maxRecDepth 20000
theorem slices_Clone (a : Option Addr) (n cap : Nat) (zs : List Int) (w : World) (h : Sl w a n zs) (hm : n ≤ 1048576) :
    Calls Try.prog 36 #[.slice a n cap] w (NewInts zs w) := by
  have H := Lib.hid h
  cases a with
  | none =>
    have hn : n = 0 := by
      rcases Nat.eq_zero_or_pos n with h0 | h0
      · exact h0
      · obtain ⟨b, off, h1, _⟩ := h.at_ h0; cases h1
    subst hn
    have hz : zs = [] := List.eq_nil_of_length_eq_zero h.len
    subst hz
    have e1 := Lib.run_eql_slice_nil (P := Try.prog) w 26 3 none 0 cap 0 0 Try.underlying26
    clear h H
    go_enter Try.func36, Try.ntmps36
    go_wp2
    go_ret
    exact ⟨_, _, _, rfl, Own.nil _ _ _ _ _ (by unfold maxLen; omega), Below.refl _ _⟩
  | some ad =>
    have e1 := Lib.run_eql_slice_nil (P := Try.prog) w 26 3 (some ad) n cap 0 0 Try.underlying26
    have E := Lib.hid (own_empty w.heap.size 3 w (Nat.le_refl _))
    have S := Lib.hid (H.out.below ((Below.refl _ _).alloc (Nat.le_refl _) (.cells #[] 3)))
    clear h
    go_enter Try.func36, Try.ntmps36
    go_wp2_with (at_builtin; (refine wpList_of_wp (by rfl) (wp_cat int_ty (.tmp 5) (.tmp 6) rfl w.heap.size (xs := []) rfl rfl E.out S.out (by omega) (by simp) ?_)); intro a5 c5 w5 own5 bel5)
    go_ret
    refine ⟨_, _, _, rfl, Own.of_row (by simpa using own5), ((Below.refl _ _).alloc (Nat.le_refl _) _).trans bel5⟩
end Go.Proofs.Ytamikccedcffeaa
