/-
  Chapter 11: the three types of measurement behind their interface; what the program's functions return.
-/
import Derived.Test.YtlfmginnffdicaaTy
import Derived.Test.YtlfmginnffdicaaField
import Derived.Test.YtlfmginnffdicaaLw
import Derived.Outline
import Derived.StillTailTactics
import Derived.Handy
namespace Go.Proofs.Ytlfmginnffdicaa
open Go.RowKit
set_option linter.unusedVariables false
set_option linter.unusedSimpArgs false
set_option maxRecDepth 20000
/-- The interface's value of a kind. -/
def mv (k : Int) : Value := if k = 1 then .iface 60 (.agg #[]) else if k = 2 then .iface 61 (.agg #[]) else if k = 3 then .iface 62 (.agg #[]) else .nilIface
theorem impl_measurementOf (k : Int) (w : World) :
    Calls Try.prog 32 #[.int .i64 k] w fun e w' => e = .returned (.tuple #[mv k, .bool (Fp.tk k)]) ∧ w = w' := by
  by_cases h1 : k = 1
  · subst h1
    go_enter Try.func32, Try.ntmps32
    go_wp2
    go_ret2
    exact ⟨rfl, rfl⟩
  by_cases h2 : k = 2
  · subst h2
    go_enter Try.func32, Try.ntmps32
    go_wp2
    go_ret2
    exact ⟨rfl, rfl⟩
  by_cases h3 : k = 3
  · subst h3
    go_enter Try.func32, Try.ntmps32
    go_wp2
    go_ret2
    exact ⟨rfl, rfl⟩
  have e1 : Fp.tk k = false := Fp.tk_not (by omega)
  have e2 : mv k = .nilIface := by simp [mv, h1, h2, h3]
  have b1 := beqF h1
  have b2 := beqF h2
  have b3 := beqF h3
  clear h1 h2 h3
  rw [e1, e2]; clear e1 e2
  go_enter Try.func32, Try.ntmps32
  go_wp2
  go_ret2
  exact ⟨rfl, rfl⟩
theorem impl_mo1 (w : World) : Calls Try.prog 32 #[.int .i64 1] w fun e w' => e = .returned (.tuple #[.iface 60 (.agg #[]), .bool true]) ∧ w = w' := impl_measurementOf 1 w
theorem impl_mo2 (w : World) : Calls Try.prog 32 #[.int .i64 2] w fun e w' => e = .returned (.tuple #[.iface 61 (.agg #[]), .bool true]) ∧ w = w' := impl_measurementOf 2 w
theorem impl_mo3 (w : World) : Calls Try.prog 32 #[.int .i64 3] w fun e w' => e = .returned (.tuple #[.iface 62 (.agg #[]), .bool true]) ∧ w = w' := impl_measurementOf 3 w
theorem impl_mo0 (k : Int) (w : World) (h : Fp.tk k = false) : Calls Try.prog 32 #[.int .i64 k] w fun e w' => e = .returned (.tuple #[.nilIface, .bool false]) ∧ w = w' := by
  have e1 := impl_measurementOf k w
  obtain ⟨h1, h2, h3⟩ := Fp.tk_no h
  rw [h, show mv k = .nilIface by simp [mv, h1, h2, h3]] at e1
  exact e1
theorem impl_bit_size (w : World) : Calls Try.prog 73 #[.agg #[]] w (Bel (.int .i64 1) w) := by
  go_enter Try.func73, Try.ntmps73
  go_wp2
  go_ret
  exact ⟨rfl, bel_box _ _⟩
theorem impl_bit_most (w : World) : Calls Try.prog 72 #[.agg #[]] w (Bel (.int .i64 1) w) := by
  go_enter Try.func72, Try.ntmps72
  go_wp2
  go_ret
  exact ⟨rfl, bel_box _ _⟩
theorem impl_pick_size (w : World) : Calls Try.prog 76 #[.agg #[]] w (Bel (.int .i64 4) w) := by
  go_enter Try.func76, Try.ntmps76
  go_wp2
  go_ret
  exact ⟨rfl, bel_box _ _⟩
theorem impl_pick_most (w : World) : Calls Try.prog 75 #[.agg #[]] w (Bel (.int .i64 3) w) := by
  go_enter Try.func75, Try.ntmps75
  go_wp2
  go_ret
  exact ⟨rfl, bel_box _ _⟩
theorem impl_num_size (w : World) : Calls Try.prog 79 #[.agg #[]] w (Bel (.int .i64 3) w) := by
  go_enter Try.func79, Try.ntmps79
  go_wp2
  go_ret
  exact ⟨rfl, bel_box _ _⟩
theorem impl_num_most (w : World) : Calls Try.prog 78 #[.agg #[]] w (Bel (.int .i64 7) w) := by
  go_enter Try.func78, Try.ntmps78
  go_wp2
  go_ret
  exact ⟨rfl, bel_box _ _⟩
theorem impl_bit_digit (x i : Nat) (w : World) (hx : x ≤ 1) (hi : i < 1) : Calls Try.prog 71 #[.agg #[], .int .i64 (x : Int), .int .i64 (i : Int)] w (Bel (.int .i64 (Fp.dig 1 x i)) w) := by
  have e : Fp.dig 1 x i = (x : Int) := by
    have : i = 0 := by omega
    subst this
    have : x = 0 ∨ x = 1 := by omega
    rcases this with rfl | rfl <;> rfl
  rw [e]; clear e
  go_enter Try.func71, Try.ntmps71
  go_wp2
  go_ret
  exact ⟨rfl, bel_box _ _⟩
theorem impl_pick_digit (x i : Nat) (w : World) : Calls Try.prog 74 #[.agg #[], .int .i64 (x : Int), .int .i64 (i : Int)] w (Bel (.int .i64 (Fp.dig 2 x i)) w) := by
  by_cases h : x = i
  · have e : Fp.dig 2 x i = 1 := by simp [Fp.dig, h]
    rw [e]; clear e
    have hb : ((x : Int) == (i : Int)) = true := beqT (by omega)
    clear h
    go_enter Try.func74, Try.ntmps74
    go_wp2
    go_ret
    exact ⟨rfl, bel_box _ _⟩
  · have e : Fp.dig 2 x i = 0 := by simp [Fp.dig, h]
    rw [e]; clear e
    have hb : ((x : Int) == (i : Int)) = false := beqF (by omega)
    clear h
    go_enter Try.func74, Try.ntmps74
    go_wp2
    go_ret
    exact ⟨rfl, bel_box _ _⟩
theorem num_dig_all : ∀ x : Fin 8, ∀ i : Fin 3, bits .and .i64 ((x.val : Int) / 2 ^ i.val) 1 = Fp.dig 3 x.val i.val := by decide +kernel
theorem num_dig {x i : Nat} (hx : x ≤ 7) (hi : i < 3) : Fp.dig 3 x i = bits .and .i64 ((x : Int) / 2 ^ i) 1 := (num_dig_all ⟨x, by omega⟩ ⟨i, hi⟩).symm
theorem impl_num_digit (x i : Nat) (w : World) (hx : x ≤ 7) (hi : i < 3) : Calls Try.prog 77 #[.agg #[], .int .i64 (x : Int), .int .i64 (i : Int)] w (Bel (.int .i64 (Fp.dig 3 x i)) w) := by
  go_enter Try.func77, Try.ntmps77
  go_wp2
  go_ret
  exact ⟨by rw [num_dig hx hi]; rfl, bel_box _ _⟩
theorem impl_TypeLen (k : Int) (w : World) :
    Calls Try.prog 17 #[.int .i64 k] w (Bel (.int .i64 (Fp.tlen k : Int)) w) := by
  cases hk : Fp.tk k
  · rw [Fp.tlen_no hk]
    go_enter Try.func17, Try.ntmps17
    go_wp2_with (go_at_call 32; refine (impl_mo0 _ _ hk).mono ?_; rintro e w' ⟨rfl, rfl⟩)
    go_ret
    exact ⟨rfl, Below.refl _ _⟩
  · rcases Fp.tk_cases hk with rfl | rfl | rfl
    · clear hk
      go_enter Try.func17, Try.ntmps17
      go_wp2_with (first | (go_at_call 32; refine (impl_mo1 _).mono ?_; rintro e w' ⟨rfl, rfl⟩) | (go_at_call 73; refine (impl_bit_size _).mono ?_; rintro e w1 ⟨rfl, b1⟩))
      go_ret
      exact ⟨rfl, b1⟩
    · clear hk
      go_enter Try.func17, Try.ntmps17
      go_wp2_with (first | (go_at_call 32; refine (impl_mo2 _).mono ?_; rintro e w' ⟨rfl, rfl⟩) | (go_at_call 76; refine (impl_pick_size _).mono ?_; rintro e w1 ⟨rfl, b1⟩))
      go_ret
      exact ⟨rfl, b1⟩
    · clear hk
      go_enter Try.func17, Try.ntmps17
      go_wp2_with (first | (go_at_call 32; refine (impl_mo3 _).mono ?_; rintro e w' ⟨rfl, rfl⟩) | (go_at_call 79; refine (impl_num_size _).mono ?_; rintro e w1 ⟨rfl, b1⟩))
      go_ret
      exact ⟨rfl, b1⟩
end Go.Proofs.Ytlfmginnffdicaa
