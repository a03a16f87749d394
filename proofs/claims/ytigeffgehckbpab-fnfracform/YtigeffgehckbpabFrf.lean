/-
  Chapter 31, the program: method values, FracSum, FracCmp.
-/
import Derived.Test.YtigeffgehckbpabFre
namespace Go.Proofs.Ytigeffgehckbpab
open Go.RowKit
set_option linter.unusedVariables false
set_option linter.unusedSimpArgs false
set_option maxRecDepth 20000
theorem cmp_isNaN (x : Int) (w : World) : Calls Try.prog 53 #[.int .i64 x] w fun e w' => e = .returned (.bool false) ∧ w = w' := by
  have hx : (x != x) = false := by simp
  go_enter Try.func53, Try.ntmps53
  go_wp2
  go_ret
  exact ⟨rfl, rfl⟩
theorem cmp_Compare0 (x : Int) (w : World) : Calls Try.prog 44 #[.int .i64 x, .int .i64 0] w fun e w' => e = .returned (.int .i64 (if x < 0 then -1 else if 0 < x then 1 else 0)) ∧ w = w' := by
  by_cases h1 : x < 0
  · rw [if_pos h1]
    go_enter Try.func44, Try.ntmps44
    go_wp2_with (go_at_call 53; refine (cmp_isNaN _ _).mono ?_; rintro e w' ⟨rfl, rfl⟩)
    go_ret
    exact ⟨rfl, rfl⟩
  rw [if_neg h1]
  by_cases h2 : 0 < x
  · rw [if_pos h2]
    go_enter Try.func44, Try.ntmps44
    go_wp2_with (go_at_call 53; refine (cmp_isNaN _ _).mono ?_; rintro e w' ⟨rfl, rfl⟩)
    go_ret
    exact ⟨rfl, rfl⟩
  · rw [if_neg h2]
    go_enter Try.func44, Try.ntmps44
    go_wp2_with (go_at_call 53; refine (cmp_isNaN _ _).mono ?_; rintro e w' ⟨rfl, rfl⟩)
    go_ret
    exact ⟨rfl, rfl⟩
theorem impl_ofValid_no (op : Value) (a b c d : Int) (w : World) (h : Fr.two a b c d = false) :
    Calls Try.prog 42 #[op, .agg #[.int .i64 a, .int .i64 b], .agg #[.int .i64 c, .int .i64 d]] w (Bel (.tuple #[.agg #[.int .i64 0, .int .i64 0], .bool false]) w) := by
  obtain ⟨w1, w2, w3, hw1, hw2, hw3, Z1, Z2, Z3, P0⟩ := trio_box w a b c d 24 60
  obtain ⟨c0, c1, c2, c3⟩ := P0.pair.at
  have P := Lib.hid P0
  clear P0
  cases h1 : Fr.ok a b
  · go_enter Try.func42, Try.ntmps42
    go_wp2_with fail
    refine (impl_FracOk _ _ _).mono ?_
    rintro e w4 ⟨rfl, b4⟩
    rw [h1]
    have P4 := Lib.hid (P.out.next b4)
    clear b4 c0 c1 c2 c3 hw1 hw2 hw3
    obtain ⟨e0, e1, f0, f1⟩ := P4.out.at
    go_wp2
    exact bodyPost_ret (v := .tuple #[.agg #[.int .i64 0, .int .i64 0], .bool false]) (by simp [results, Try.results42, go_sem, e0, e1]) rfl ⟨rfl, (P4.out.pair.bel.setCell (by simp) _).setCell (by simp) _⟩
  have h2 : Fr.ok c d = false := by
    cases k : Fr.ok c d
    · rfl
    · rw [Fr.two_iff.2 ⟨h1, k⟩] at h; exact h
  go_enter Try.func42, Try.ntmps42
  go_wp2_with fail
  refine (impl_FracOk _ _ _).mono ?_
  rintro e w4 ⟨rfl, b4⟩
  rw [h1]
  have P4 := Lib.hid (P.out.next b4)
  clear b4 c0 c1 c2 c3 hw1 hw2 hw3
  obtain ⟨c0, c1, c2, c3⟩ := P4.out.pair.at
  go_wp2_with fail
  refine (impl_FracOk _ _ _).mono ?_
  rintro e w5 ⟨rfl, b5⟩
  rw [h2]
  have P5 := Lib.hid (P4.out.next b5)
  clear b5 c0 c1 c2 c3
  obtain ⟨e0, e1, f0, f1⟩ := P5.out.at
  go_wp2
  exact bodyPost_ret (v := .tuple #[.agg #[.int .i64 0, .int .i64 0], .bool false]) (by simp [results, Try.results42, go_sem, e0, e1]) rfl ⟨rfl, (P5.out.pair.bel.setCell (by simp) _).setCell (by simp) _⟩
theorem impl_ofValid_plus (a b c d : Nat) (w : World) (h1 : Fr.ok a b = true) (h2 : Fr.ok c d = true) :
    Calls Try.prog 42 #[.func (.func 45) #[.agg #[.int .i64 (a : Int), .int .i64 (b : Int)]] #[], .agg #[.int .i64 (a : Int), .int .i64 (b : Int)], .agg #[.int .i64 (c : Int), .int .i64 (d : Int)]] w
      (Bel (.tuple #[.agg #[.int .i64 (op_plus ((a : Int) * d) ((c : Int) * b)), .int .i64 ((b : Int) * d)], .bool true]) w) := by
  obtain ⟨w1, w2, w3, hw1, hw2, hw3, Z1, Z2, Z3, P0⟩ := trio_box w a b c d 24 60
  obtain ⟨c0, c1, c2, c3⟩ := P0.pair.at
  have P := Lib.hid P0
  clear P0
  obtain ⟨l1, l2, l3⟩ := Fr.ok_bd h1
  obtain ⟨m1, m2, m3⟩ := Fr.ok_bd h2
  go_enter Try.func42, Try.ntmps42
  go_wp2_with fail
  refine (impl_FracOk _ _ _).mono ?_
  rintro e w4 ⟨rfl, b4⟩
  rw [h1]
  have P4 := Lib.hid (P.out.next b4)
  clear b4 c0 c1 c2 c3 hw1 hw2 hw3
  obtain ⟨c0, c1, c2, c3⟩ := P4.out.pair.at
  go_wp2_with fail
  refine (impl_FracOk _ _ _).mono ?_
  rintro e w5 ⟨rfl, b5⟩
  rw [h2]
  have P5 := Lib.hid (P4.out.next b5)
  clear b5 c0 c1 c2 c3
  obtain ⟨c0, c1, c2, c3⟩ := P5.out.pair.at
  go_wp2_with fail
  refine (impl_ratio_plus a b c d _ l1 l3 m1 m3).mono ?_
  rintro e w6 ⟨rfl, b6⟩
  have P6 := Lib.hid (P5.out.next b6)
  clear b6 c0 c1 c2 c3
  obtain ⟨e0, e1, f0, f1⟩ := P6.out.at
  go_wp2
  exact bodyPost_ret (v := .tuple #[.agg #[.int .i64 (op_plus ((a : Int) * d) ((c : Int) * b)), .int .i64 ((b : Int) * d)], .bool true]) (by simp [results, Try.results42, go_sem, e0, e1]) rfl ⟨rfl, (P6.out.pair.bel.setCell (by simp) _).setCell (by simp) _⟩
theorem impl_ofValid_minus (a b c d : Nat) (w : World) (h1 : Fr.ok a b = true) (h2 : Fr.ok c d = true) :
    Calls Try.prog 42 #[.func (.func 43) #[.agg #[.int .i64 (a : Int), .int .i64 (b : Int)]] #[], .agg #[.int .i64 (a : Int), .int .i64 (b : Int)], .agg #[.int .i64 (c : Int), .int .i64 (d : Int)]] w
      (Bel (.tuple #[.agg #[.int .i64 (op_minus ((a : Int) * d) ((c : Int) * b)), .int .i64 ((b : Int) * d)], .bool true]) w) := by
  obtain ⟨w1, w2, w3, hw1, hw2, hw3, Z1, Z2, Z3, P0⟩ := trio_box w a b c d 24 60
  obtain ⟨c0, c1, c2, c3⟩ := P0.pair.at
  have P := Lib.hid P0
  clear P0
  obtain ⟨l1, l2, l3⟩ := Fr.ok_bd h1
  obtain ⟨m1, m2, m3⟩ := Fr.ok_bd h2
  go_enter Try.func42, Try.ntmps42
  go_wp2_with fail
  refine (impl_FracOk _ _ _).mono ?_
  rintro e w4 ⟨rfl, b4⟩
  rw [h1]
  have P4 := Lib.hid (P.out.next b4)
  clear b4 c0 c1 c2 c3 hw1 hw2 hw3
  obtain ⟨c0, c1, c2, c3⟩ := P4.out.pair.at
  go_wp2_with fail
  refine (impl_FracOk _ _ _).mono ?_
  rintro e w5 ⟨rfl, b5⟩
  rw [h2]
  have P5 := Lib.hid (P4.out.next b5)
  clear b5 c0 c1 c2 c3
  obtain ⟨c0, c1, c2, c3⟩ := P5.out.pair.at
  go_wp2_with fail
  refine (impl_ratio_minus a b c d _ l1 l3 m1 m3).mono ?_
  rintro e w6 ⟨rfl, b6⟩
  have P6 := Lib.hid (P5.out.next b6)
  clear b6 c0 c1 c2 c3
  obtain ⟨e0, e1, f0, f1⟩ := P6.out.at
  go_wp2
  exact bodyPost_ret (v := .tuple #[.agg #[.int .i64 (op_minus ((a : Int) * d) ((c : Int) * b)), .int .i64 ((b : Int) * d)], .bool true]) (by simp [results, Try.results42, go_sem, e0, e1]) rfl ⟨rfl, (P6.out.pair.bel.setCell (by simp) _).setCell (by simp) _⟩
theorem impl_fraction' (x y : Int) (n d : Nat) (w : World) (hx : x = n) (hy : y = d) (h0 : 0 < d) (hn : n ≤ 1000000000000) (hd : d ≤ 1000000000000) :
    Calls Try.prog 46 #[.agg #[.int .i64 x, .int .i64 y]] w (Bel (.tuple #[.agg #[.int .i64 (Fr.rn (Fr.can n d) n d), .int .i64 (Fr.rd (Fr.can n d) n d)], .bool (Fr.can n d)]) w) := by
  subst hx hy; exact impl_fraction n d w h0 hn hd
theorem impl_FracSum (a b c d : Int) (w : World) :
    Calls Try.prog 22 #[.agg #[.int .i64 a, .int .i64 b], .agg #[.int .i64 c, .int .i64 d]] w (Bel (.tuple #[.agg #[.int .i64 (Fr.sN a b c d), .int .i64 (Fr.sD a b c d)], .bool (Fr.sB a b c d)]) w) := by
  have hmf : ∀ (fn : Fn) (first cap : Array Value) (w : World), (Instr.makeFunc fn first cap).run Try.prog w = .ok (.func fn first cap) w := fun _ _ _ _ => rfl
  obtain ⟨w1, w2, w3, hw1, hw2, hw3, Z1, Z2, Z3, P0⟩ := trio_box w a b c d 24 24
  obtain ⟨c0, c1, c2, c3⟩ := P0.pair.at
  have P := Lib.hid P0
  clear P0
  cases ht : Fr.two a b c d
  · obtain ⟨k1, k2, k3⟩ := Fr.s_no ht
    rw [k1, k2, k3]
    clear k1 k2 k3
    go_enter Try.func22, Try.ntmps22
    go_wp2_with fail
    refine (impl_ofValid_no _ _ _ _ _ _ ht).mono ?_
    rintro e w4 ⟨rfl, b4⟩
    have P4 := Lib.hid (P.out.next b4)
    clear b4 c0 c1 c2 c3 hw1 hw2 hw3
    obtain ⟨e0, e1, f0, f1⟩ := P4.out.at
    have z4 : w.heap.size + 2 < w4.heap.size := P4.out.size
    go_wp2
    exact bodyPost_ret (v := .tuple #[.agg #[.int .i64 0, .int .i64 0], .bool false]) (by simp [results, Try.results22, go_sem, e0, e1, z4]) rfl ⟨rfl, ((P4.out.pair.bel.setCell (by simp) _).setCell (by simp) _).alloc (by simp; omega) _⟩
  obtain ⟨h1, h2⟩ := Fr.two_iff.1 ht
  obtain ⟨a, b, rfl, rfl, l1, l2, l3, -⟩ := Fr.ok_nat h1
  obtain ⟨c, d, rfl, rfl, m1, m2, m3, -⟩ := Fr.ok_nat h2
  obtain ⟨k1, k2, k3⟩ := Fr.s_yes ht
  rw [k1, k2, k3]
  clear k1 k2 k3 ht
  obtain ⟨s1, s2⟩ := sum_bd l1 l3 m1 m3
  have S0 := Nat.mul_pos l2 m2
  go_enter Try.func22, Try.ntmps22
  go_wp2_with fail
  refine (impl_ofValid_plus _ _ _ _ _ h1 h2).mono ?_
  rintro e w4 ⟨rfl, b4⟩
  have P4 := Lib.hid (P.out.next b4)
  clear b4 c0 c1 c2 c3 hw1 hw2 hw3
  obtain ⟨w5, hw5, Z5, B5, T5⟩ := duo_box w4 (op_plus ((a : Int) * d) ((c : Int) * b)) ((b : Int) * d) 60
  have P5 := Lib.hid (P4.out.next B5)
  obtain ⟨c0, c1, -, -⟩ := duo_at T5
  clear B5 T5
  go_wp2_with fail
  refine (impl_fraction' _ _ (a * d + c * b) (b * d) _ (nat_sum a b c d) (nat_mul b d) S0 (by omega) (by omega)).mono ?_
  rintro e w6 ⟨rfl, b6⟩
  have P6 := Lib.hid (P5.out.next b6)
  clear b6 c0 c1 hw5
  obtain ⟨e0, e1, f0, f1⟩ := P6.out.at
  go_wp2
  exact bodyPost_ret (v := .tuple #[.agg #[.int .i64 (Fr.rn (Fr.can (a * d + c * b) (b * d)) (a * d + c * b) (b * d)), .int .i64 (Fr.rd (Fr.can (a * d + c * b) (b * d)) (a * d + c * b) (b * d))], .bool (Fr.can (a * d + c * b) (b * d))]) (by simp [results, Try.results22, go_sem, e0, e1]) rfl ⟨rfl, (P6.out.pair.bel.setCell (by simp) _).setCell (by simp) _⟩
theorem impl_FracCmp (a b c d : Int) (w : World) :
    Calls Try.prog 20 #[.agg #[.int .i64 a, .int .i64 b], .agg #[.int .i64 c, .int .i64 d]] w (Bel (.int .i64 (Fr.cmp a b c d)) w) := by
  have hmf : ∀ (fn : Fn) (first cap : Array Value) (w : World), (Instr.makeFunc fn first cap).run Try.prog w = .ok (.func fn first cap) w := fun _ _ _ _ => rfl
  obtain ⟨w1, w2, hw1, hw2, Z1, Z2, P0⟩ := pair_box w a b c d 24
  obtain ⟨c0, c1, c2, c3⟩ := P0.at
  have P := Lib.hid P0
  clear P0
  cases ht : Fr.two a b c d
  · rw [Fr.cmp_no ht]
    go_enter Try.func20, Try.ntmps20
    go_wp2_with fail
    refine (impl_ofValid_no _ _ _ _ _ _ ht).mono ?_
    rintro e w4 ⟨rfl, b4⟩
    have P4 := Lib.hid (P.out.next b4)
    clear b4 c0 c1 c2 c3 hw1 hw2
    have z4 := P4.out.size
    go_wp2_with (go_at_call 44; refine (cmp_Compare0 _ _).mono ?_; rintro e w' ⟨rfl, rfl⟩)
    go_ret
    exact ⟨rfl, P4.out.bel.alloc (by omega) _⟩
  obtain ⟨h1, h2⟩ := Fr.two_iff.1 ht
  have E := Lib.hid (Fr.cmp_sign ht)
  obtain ⟨a, b, rfl, rfl, l1, l2, l3, -⟩ := Fr.ok_nat h1
  obtain ⟨c, d, rfl, rfl, m1, m2, m3, -⟩ := Fr.ok_nat h2
  clear ht
  go_enter Try.func20, Try.ntmps20
  go_wp2_with fail
  refine (impl_ofValid_minus _ _ _ _ _ h1 h2).mono ?_
  rintro e w4 ⟨rfl, b4⟩
  have P4 := Lib.hid (P.out.next b4)
  clear b4 c0 c1 c2 c3 hw1 hw2
  obtain ⟨w5, hw5, Z5, B5, T5⟩ := duo_box w4 (op_minus ((a : Int) * d) ((c : Int) * b)) ((b : Int) * d) 60
  have P5 := Lib.hid (P4.out.next B5)
  obtain ⟨c0, c1, -, -⟩ := duo_at T5
  clear B5 T5
  go_wp2_with fail
  refine (cmp_Compare0 _ _).mono ?_
  rintro e w' ⟨rfl, rfl⟩
  rw [show (if op_minus ((a : Int) * d) ((c : Int) * b) < 0 then (-1 : Int) else if 0 < op_minus ((a : Int) * d) ((c : Int) * b) then 1 else 0) = Fr.cmp a b c d from E.out.symm]
  go_wp2
  go_ret
  exact ⟨rfl, P5.out.bel⟩
end Go.Proofs.Ytigeffgehckbpab
