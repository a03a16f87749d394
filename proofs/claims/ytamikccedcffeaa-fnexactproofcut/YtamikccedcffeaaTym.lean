/-
  Chapter 11: the three types of measurement behind their interface; what the program's functions return.
-/
import Derived.Test.YtamikccedcffeaaTy
import Derived.Test.YtamikccedcffeaaField
import Derived.Test.YtamikccedcffeaaLw
import Derived.Outline
import Derived.StillTailTactics
import Derived.Handy
namespace Go.Proofs.Ytamikccedcffeaa
open Go.RowKit
set_option linter.unusedVariables false
set_option linter.unusedSimpArgs false
/-- The interface's value of a kind. -/
def mv (k : Int) : Value := if k = 1 then .iface 62 (.agg #[]) else if k = 2 then .iface 63 (.agg #[]) else if k = 3 then .iface 64 (.agg #[]) else .nilIface
theorem impl_measurementOf (k : Int) (w : World) :
    Calls Try.prog 26 #[.int .i64 k] w fun e w' => e = .returned (.tuple #[mv k, .bool (Fp.tk k)]) ∧ w = w' := by
  by_cases h1 : k = 1
  · subst h1
    go_enter Try.func26, Try.ntmps26
    go_wp2
    go_ret2
    exact ⟨rfl, rfl⟩
  by_cases h2 : k = 2
  · subst h2
    go_enter Try.func26, Try.ntmps26
    go_wp2
    go_ret2
    exact ⟨rfl, rfl⟩
  by_cases h3 : k = 3
  · subst h3
    go_enter Try.func26, Try.ntmps26
    go_wp2
    go_ret2
    exact ⟨rfl, rfl⟩
  have e1 : Fp.tk k = false := Fp.tk_not (by omega)
  have e2 : mv k = .nilIface := by simp [mv, h1, h2, h3]
  have b1 := beqF h1
  have b2 := beqF h2
  have b3 := beqF h3
  clear h1 h2 h3
  rw [e1, e2]; clear e1 e2
  go_enter Try.func26, Try.ntmps26
  go_wp2
  go_ret2
  exact ⟨rfl, rfl⟩
theorem impl_mo1 (w : World) : Calls Try.prog 26 #[.int .i64 1] w fun e w' => e = .returned (.tuple #[.iface 62 (.agg #[]), .bool true]) ∧ w = w' := impl_measurementOf 1 w
theorem impl_mo2 (w : World) : Calls Try.prog 26 #[.int .i64 2] w fun e w' => e = .returned (.tuple #[.iface 63 (.agg #[]), .bool true]) ∧ w = w' := impl_measurementOf 2 w
theorem impl_mo3 (w : World) : Calls Try.prog 26 #[.int .i64 3] w fun e w' => e = .returned (.tuple #[.iface 64 (.agg #[]), .bool true]) ∧ w = w' := impl_measurementOf 3 w
theorem impl_mo0 (k : Int) (w : World) (h : Fp.tk k = false) : Calls Try.prog 26 #[.int .i64 k] w fun e w' => e = .returned (.tuple #[.nilIface, .bool false]) ∧ w = w' := by
  have e1 := impl_measurementOf k w
  obtain ⟨h1, h2, h3⟩ := Fp.tk_no h
  rw [h, show mv k = .nilIface by simp [mv, h1, h2, h3]] at e1
  exact e1
/-- A call that returned v, and turned nothing that was there. -/
def Bel (v : Value) (w : World) (e : Ending) (w' : World) : Prop := e = .returned v ∧ Below w.heap.size w w'
theorem Bel.below {v : Value} {w : World} {e : Ending} {w' : World} (h : Bel v w e w') : e = .returned v ∧ Below w.heap.size w w' := h
theorem bel_box (w : World) (o : Obj) : Below w.heap.size w (w.alloc o) := (Below.refl _ _).alloc (Nat.le_refl _) o
theorem impl_bit_size (w : World) : Calls Try.prog 74 #[.agg #[]] w (Bel (.int .i64 1) w) := by
  go_enter Try.func74, Try.ntmps74
  go_wp2
  go_ret
  exact ⟨rfl, bel_box _ _⟩
theorem impl_pick_size (w : World) : Calls Try.prog 77 #[.agg #[]] w (Bel (.int .i64 4) w) := by
  go_enter Try.func77, Try.ntmps77
  go_wp2
  go_ret
  exact ⟨rfl, bel_box _ _⟩
theorem impl_num_size (w : World) : Calls Try.prog 80 #[.agg #[]] w (Bel (.int .i64 3) w) := by
  go_enter Try.func80, Try.ntmps80
  go_wp2
  go_ret
  exact ⟨rfl, bel_box _ _⟩
theorem impl_TypeLen (k : Int) (w : World) :
    Calls Try.prog 10 #[.int .i64 k] w (Bel (.int .i64 (Fp.tlen k : Int)) w) := by
  cases hk : Fp.tk k
  · rw [Fp.tlen_no hk]
    go_enter Try.func10, Try.ntmps10
    go_wp2_with (go_at_call 26; refine (impl_mo0 _ _ hk).mono ?_; rintro e w' ⟨rfl, rfl⟩)
    go_ret
    exact ⟨rfl, Below.refl _ _⟩
  · rcases Fp.tk_cases hk with rfl | rfl | rfl
    · clear hk
      go_enter Try.func10, Try.ntmps10
      go_wp2_with (first | (go_at_call 26; refine (impl_mo1 _).mono ?_; rintro e w' ⟨rfl, rfl⟩) | (go_at_call 74; refine (impl_bit_size _).mono ?_; rintro e w1 ⟨rfl, b1⟩))
      go_ret
      exact ⟨rfl, b1⟩
    · clear hk
      go_enter Try.func10, Try.ntmps10
      go_wp2_with (first | (go_at_call 26; refine (impl_mo2 _).mono ?_; rintro e w' ⟨rfl, rfl⟩) | (go_at_call 77; refine (impl_pick_size _).mono ?_; rintro e w1 ⟨rfl, b1⟩))
      go_ret
      exact ⟨rfl, b1⟩
    · clear hk
      go_enter Try.func10, Try.ntmps10
      go_wp2_with (first | (go_at_call 26; refine (impl_mo3 _).mono ?_; rintro e w' ⟨rfl, rfl⟩) | (go_at_call 80; refine (impl_num_size _).mono ?_; rintro e w1 ⟨rfl, b1⟩))
      go_ret
      exact ⟨rfl, b1⟩
end Go.Proofs.Ytamikccedcffeaa
