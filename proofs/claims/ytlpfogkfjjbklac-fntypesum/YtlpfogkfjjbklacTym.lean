/-
  Chapter 11: the three types of measurement behind their interface; what the program's functions return.
-/
import Derived.Test.YtlpfogkfjjbklacTy
import Derived.Test.YtlpfogkfjjbklacField
import Derived.Test.YtlpfogkfjjbklacLw
import Derived.Outline
import Derived.StillTailTactics
import Derived.Handy
namespace Go.Proofs.Ytlpfogkfjjbklac
open Go.RowKit
set_option linter.unusedVariables false
set_option linter.unusedSimpArgs false
/-- The interface's value of a kind. -/
def mv (k : Int) : Value := if k = 1 then .iface 52 (.agg #[]) else if k = 2 then .iface 53 (.agg #[]) else if k = 3 then .iface 54 (.agg #[]) else .nilIface
theorem impl_measurementOf (k : Int) (w : World) :
    Calls Try.prog 15 #[.int .i64 k] w fun e w' => e = .returned (.tuple #[mv k, .bool (Fp.tk k)]) ∧ w = w' := by
  by_cases h1 : k = 1
  · subst h1
    go_enter Try.func15, Try.ntmps15
    go_wp2
    go_ret2
    exact ⟨rfl, rfl⟩
  by_cases h2 : k = 2
  · subst h2
    go_enter Try.func15, Try.ntmps15
    go_wp2
    go_ret2
    exact ⟨rfl, rfl⟩
  by_cases h3 : k = 3
  · subst h3
    go_enter Try.func15, Try.ntmps15
    go_wp2
    go_ret2
    exact ⟨rfl, rfl⟩
  have e1 : Fp.tk k = false := Fp.tk_not (by omega)
  have e2 : mv k = .nilIface := by simp [mv, h1, h2, h3]
  have b1 := beqF h1
  have b2 := beqF h2
  have b3 := beqF h3
  clear h1 h2 h3
  rw [e1, e2]; clear e1 e2
  go_enter Try.func15, Try.ntmps15
  go_wp2
  go_ret2
  exact ⟨rfl, rfl⟩
theorem impl_mo1 (w : World) : Calls Try.prog 15 #[.int .i64 1] w fun e w' => e = .returned (.tuple #[.iface 52 (.agg #[]), .bool true]) ∧ w = w' := impl_measurementOf 1 w
theorem impl_mo2 (w : World) : Calls Try.prog 15 #[.int .i64 2] w fun e w' => e = .returned (.tuple #[.iface 53 (.agg #[]), .bool true]) ∧ w = w' := impl_measurementOf 2 w
theorem impl_mo3 (w : World) : Calls Try.prog 15 #[.int .i64 3] w fun e w' => e = .returned (.tuple #[.iface 54 (.agg #[]), .bool true]) ∧ w = w' := impl_measurementOf 3 w
theorem impl_mo0 (k : Int) (w : World) (h : Fp.tk k = false) : Calls Try.prog 15 #[.int .i64 k] w fun e w' => e = .returned (.tuple #[.nilIface, .bool false]) ∧ w = w' := by
  have e1 := impl_measurementOf k w
  obtain ⟨h1, h2, h3⟩ := Fp.tk_no h
  rw [h, show mv k = .nilIface by simp [mv, h1, h2, h3]] at e1
  exact e1
/-- A call that returned v, and turned nothing that was there. -/
def Bel (v : Value) (w : World) (e : Ending) (w' : World) : Prop := e = .returned v ∧ Below w.heap.size w w'
theorem Bel.below {v : Value} {w : World} {e : Ending} {w' : World} (h : Bel v w e w') : e = .returned v ∧ Below w.heap.size w w' := h
theorem bel_box (w : World) (o : Obj) : Below w.heap.size w (w.alloc o) := (Below.refl _ _).alloc (Nat.le_refl _) o
theorem impl_bit_size (w : World) : Calls Try.prog 70 #[.agg #[]] w (Bel (.int .i64 1) w) := by
  go_enter Try.func70, Try.ntmps70
  go_wp2
  go_ret
  exact ⟨rfl, bel_box _ _⟩
theorem impl_bit_most (w : World) : Calls Try.prog 69 #[.agg #[]] w (Bel (.int .i64 1) w) := by
  go_enter Try.func69, Try.ntmps69
  go_wp2
  go_ret
  exact ⟨rfl, bel_box _ _⟩
theorem impl_pick_size (w : World) : Calls Try.prog 73 #[.agg #[]] w (Bel (.int .i64 4) w) := by
  go_enter Try.func73, Try.ntmps73
  go_wp2
  go_ret
  exact ⟨rfl, bel_box _ _⟩
theorem impl_pick_most (w : World) : Calls Try.prog 72 #[.agg #[]] w (Bel (.int .i64 3) w) := by
  go_enter Try.func72, Try.ntmps72
  go_wp2
  go_ret
  exact ⟨rfl, bel_box _ _⟩
theorem impl_num_size (w : World) : Calls Try.prog 76 #[.agg #[]] w (Bel (.int .i64 3) w) := by
  go_enter Try.func76, Try.ntmps76
  go_wp2
  go_ret
  exact ⟨rfl, bel_box _ _⟩
theorem impl_num_most (w : World) : Calls Try.prog 75 #[.agg #[]] w (Bel (.int .i64 7) w) := by
  go_enter Try.func75, Try.ntmps75
  go_wp2
  go_ret
  exact ⟨rfl, bel_box _ _⟩
theorem impl_bit_digit (x i : Nat) (w : World) (hx : x ≤ 1) (hi : i < 1) : Calls Try.prog 68 #[.agg #[], .int .i64 (x : Int), .int .i64 (i : Int)] w (Bel (.int .i64 (Fp.dig 1 x i)) w) := by
  have e : Fp.dig 1 x i = (x : Int) := by
    have : i = 0 := by omega
    subst this
    have : x = 0 ∨ x = 1 := by omega
    rcases this with rfl | rfl <;> rfl
  rw [e]; clear e
  go_enter Try.func68, Try.ntmps68
  go_wp2
  go_ret
  exact ⟨rfl, bel_box _ _⟩
theorem impl_pick_digit (x i : Nat) (w : World) : Calls Try.prog 71 #[.agg #[], .int .i64 (x : Int), .int .i64 (i : Int)] w (Bel (.int .i64 (Fp.dig 2 x i)) w) := by
  by_cases h : x = i
  · have e : Fp.dig 2 x i = 1 := by simp [Fp.dig, h]
    rw [e]; clear e
    have hb : ((x : Int) == (i : Int)) = true := beqT (by omega)
    clear h
    go_enter Try.func71, Try.ntmps71
    go_wp2
    go_ret
    exact ⟨rfl, bel_box _ _⟩
  · have e : Fp.dig 2 x i = 0 := by simp [Fp.dig, h]
    rw [e]; clear e
    have hb : ((x : Int) == (i : Int)) = false := beqF (by omega)
    clear h
    go_enter Try.func71, Try.ntmps71
    go_wp2
    go_ret
    exact ⟨rfl, bel_box _ _⟩
theorem num_dig_all : ∀ x : Fin 8, ∀ i : Fin 3, bits .and .i64 ((x.val : Int) / 2 ^ i.val) 1 = Fp.dig 3 x.val i.val := by decide +kernel
theorem num_dig {x i : Nat} (hx : x ≤ 7) (hi : i < 3) : Fp.dig 3 x i = bits .and .i64 ((x : Int) / 2 ^ i) 1 := (num_dig_all ⟨x, by omega⟩ ⟨i, hi⟩).symm
theorem impl_num_digit (x i : Nat) (w : World) (hx : x ≤ 7) (hi : i < 3) : Calls Try.prog 74 #[.agg #[], .int .i64 (x : Int), .int .i64 (i : Int)] w (Bel (.int .i64 (Fp.dig 3 x i)) w) := by
  go_enter Try.func74, Try.ntmps74
  go_wp2
  go_ret
  exact ⟨by rw [num_dig hx hi]; rfl, bel_box _ _⟩
end Go.Proofs.Ytlpfogkfjjbklac
