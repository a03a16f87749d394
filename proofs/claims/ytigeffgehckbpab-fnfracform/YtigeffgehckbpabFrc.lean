/-
  Chapter 31: what the functions of fractions return, of the program and of the model, at every argument.
-/
import Derived.Test.YtigeffgehckbpabFrl
import Derived.Test.YtigeffgehckbpabField
import Derived.Test.YtigeffgehckbpabTri
import Derived.Outline
import Derived.StillTailTactics
import Derived.Deep.RegionHeld3
namespace Go.Proofs.Ytigeffgehckbpab
open Go.RowKit
set_option linter.unusedVariables false
set_option linter.unusedSimpArgs false
set_option maxRecDepth 20000
theorem bcell {W w1 : World} (hb : Below W.heap.size W w1) : (∀ b o, b < W.heap.size → w1.cell? ⟨b, o, none⟩ = W.cell? ⟨b, o, none⟩) ∧ (∀ b o, b < W.heap.size → w1.frozen? ⟨b, o, none⟩ = W.frozen? ⟨b, o, none⟩) :=
  ⟨fun b o h => hb.cell (p := ⟨b, o, none⟩) h, fun b o h => hb.frozen (p := ⟨b, o, none⟩) h⟩
theorem two_keep {w w' : World} {g : Nat} {x y : Value} (h : w.cell? ⟨g, 0, none⟩ = some x ∧ w.cell? ⟨g, 1, none⟩ = some y) (k : Below w.heap.size w w') : w'.cell? ⟨g, 0, none⟩ = some x ∧ w'.cell? ⟨g, 1, none⟩ = some y :=
  have hg : g < w.heap.size := cell_lt h.1
  ⟨(k.cell (p := ⟨g, 0, none⟩) hg).trans h.1, (k.cell (p := ⟨g, 1, none⟩) hg).trans h.2⟩
/-- A box of two numbers. -/
theorem duo_box (w : World) (n d : Int) (t : TypeId) : ∃ w1, w.alloc (.cells #[.int .i64 n, .int .i64 d] t) = w1 ∧ w1.heap.size = w.heap.size + 1 ∧ Below w.heap.size w w1 ∧ Tri w1 w.heap.size [.int .i64 n, .int .i64 d] t :=
  ⟨_, rfl, size_alloc1 _ _, (Below.refl _ _).alloc (Nat.le_refl _) _, Tri.new _ _ _⟩
theorem duo_at {w : World} {g : Nat} {x y : Value} {t : TypeId} (h : Tri w g [x, y] t) : w.cell? ⟨g, 0, none⟩ = some x ∧ w.cell? ⟨g, 1, none⟩ = some y ∧ w.frozen? ⟨g, 0, none⟩ = false ∧ w.frozen? ⟨g, 1, none⟩ = false :=
  ⟨h.at_ 0, h.at_ 1, (h.there 0 (by simp)).2, (h.there 1 (by simp)).2⟩
theorem tri_drewN {w : World} {g : Nat} {cs : List Value} {t : TypeId} (h : Tri w g cs t) (n : Nat) : Tri (w.drewN n) g cs t := h
theorem impl_withinLimits (n d : Int) (w : World) :
    Calls Try.prog 48 #[.agg #[.int .i64 n, .int .i64 d]] w (Bel (.bool (Fr.lim n d)) w) := by
  by_cases h1 : 0 ≤ n
  · by_cases h2 : n ≤ 999
    · by_cases h3 : 1 ≤ d
      · by_cases h4 : d ≤ 60
        · rw [Fr.lim_iff.2 ⟨h1, h2, h3, h4⟩]
          go_enter Try.func48, Try.ntmps48
          go_wp2
          go_ret
          exact ⟨rfl, bel_box _ _⟩
        · rw [Fr.lim_not (by omega)]
          go_enter Try.func48, Try.ntmps48
          go_wp2
          go_ret
          exact ⟨rfl, bel_box _ _⟩
      · rw [Fr.lim_not (by omega)]
        go_enter Try.func48, Try.ntmps48
        go_wp2
        go_ret
        exact ⟨rfl, bel_box _ _⟩
    · rw [Fr.lim_not (by omega)]
      go_enter Try.func48, Try.ntmps48
      go_wp2
      go_ret
      exact ⟨rfl, bel_box _ _⟩
  · rw [Fr.lim_not (by omega)]
    go_enter Try.func48, Try.ntmps48
    go_wp2
    go_ret
    exact ⟨rfl, bel_box _ _⟩
theorem spec_l31Gcd (a b : Nat) (w : World) (ha : a ≤ 4611686018427387904) (hb : b ≤ 4611686018427387904) :
    Calls Try.prog 41 #[.int .i64 (a : Int), .int .i64 (b : Int)] w fun e w' => e = .returned (.int .i64 ((a.gcd b : Nat) : Int)) ∧ w = w' := by
  go_enter Try.func41, Try.ntmps41
  go_wp2
  go_loop [0, 1] (fun x y => ∃ p q : Nat, Hid (p.gcd q = a.gcd b) ∧ p ≤ 4611686018427387904 ∧ q ≤ 4611686018427387904 ∧ x = .int .i64 (p : Int) ∧ y = .int .i64 (q : Int)) (fun _ y => (intOf y).toNat)
  case atStart => exact ⟨a, b, rfl, ha, hb, rfl, rfl⟩
  case round =>
    obtain ⟨p, q, hg, hp, hq, rfl, rfl⟩ := hrel
    by_cases h0 : 0 < q
    · have m1 : p % q < q := Nat.mod_lt _ h0
      go_wp2
      go_round
      case rel => exact ⟨q, p % q, by show _ = _; rw [Nat.gcd_comm, ← Nat.gcd_rec, Nat.gcd_comm]; exact hg.out, by omega, by omega, rfl, by go_num⟩
      case measure => simp [intOf]; omega
    · have e : q = 0 := by omega
      subst e
      have E := Lib.hid (show p = a.gcd b by have := hg.out; rw [Nat.gcd_zero_right] at this; exact this)
      go_wp2
      go_ret
      exact ⟨by rw [E.out]; rfl, rfl⟩
theorem impl_lowest (n d : Nat) (w : World) (h0 : 0 < d) (hn : n ≤ 1000000000000) (hd : d ≤ 1000000000000) :
    Calls Try.prog 49 #[.agg #[.int .i64 (n : Int), .int .i64 (d : Int)]] w (Bel (.agg #[.int .i64 (Fr.num n d : Int), .int .i64 (Fr.den n d : Int)]) w) := by
  obtain ⟨w1, hw1, Z1, B1, T1⟩ := duo_box w n d 60
  obtain ⟨w2, hw2, Z2, B2, T2⟩ := duo_box w1 0 0 60
  have U := Lib.hid (T1.below B2 (by omega))
  rw [Z1] at T2
  have T := Lib.hid T2
  have B := Lib.hid (B1.trans (B2.mono (by omega)))
  obtain ⟨c0, c1, -, -⟩ := duo_at U.out
  clear B1 B2 T1 T2 Z2
  have HD := Lib.hid h0
  clear h0
  go_enter Try.func49, Try.ntmps49
  go_wp2
  go_quiet (fail)
  clear hw1 hw2 c0 c1
  go_wp2
  go_loopw [3, 4] (fun x y wr => ∃ p q m : Nat, Hid (p.gcd q = n.gcd d) ∧ 0 < p ∧ p ≤ 1000000000000 ∧ q ≤ 1000000000000 ∧ x = .int .i64 (p : Int) ∧ y = .int .i64 (q : Int) ∧ Hid (wr = w2.drewN m)) (fun _ y _ => (intOf y).toNat)
  case atStart => exact ⟨d, n, nq, by show _ = _; rw [Nat.gcd_comm], HD.out, hd, hn, rfl, rfl, rfl⟩
  case round =>
    obtain ⟨p, q, m, hg, hp0, hp, hq, rfl, rfl, hw⟩ := hrel
    by_cases h0 : 0 < q
    · have m1 : p % q < q := Nat.mod_lt _ h0
      have m2 : (p : Int).tmod (q : Int) = ((p % q : Nat) : Int) := rfl
      go_wp2
      go_quiet (fail)
      clear m2
      go_wp2
      go_roundw
      case rel => exact ⟨q, p % q, m + nq, by show _ = _; rw [Nat.gcd_comm, ← Nat.gcd_rec, Nat.gcd_comm]; exact hg.out, h0, by omega, by omega, rfl, rfl, by show _ = _; rw [hw.out, World.drewN_drewN]⟩
      case measure => simp [intOf]; omega
    · have e : q = 0 := by omega
      subst e
      have E := Lib.hid (show p = n.gcd d by have := hg.out; rw [Nat.gcd_zero_right] at this; exact this)
      obtain ⟨c0, c1, -, -⟩ := duo_at (tri_drewN U.out m)
      obtain ⟨-, -, f0, f1⟩ := duo_at (tri_drewN T.out m)
      obtain ⟨e0, e1, -, -⟩ := duo_at (tri_drewN T.out m)
      have BB := Lib.hid (below_drewN B.out m)
      rw [← hw.out] at c0 c1 e0 e1 f0 f1 BB
      have n1 := Fr.num_le n d
      have n2 := Fr.den_le n d
      have q1 : (n : Int).tdiv (p : Int) = (Fr.num n d : Int) := by show ((n / p : Nat) : Int) = _; rw [E.out]; rfl
      have q2 : (d : Int).tdiv (p : Int) = (Fr.den n d : Int) := by show ((d / p : Nat) : Int) = _; rw [E.out]; rfl
      have q3 : IntKind.i64.wrap (Fr.num n d : Int) = (Fr.num n d : Int) := IntWalk.i64_in _ (by omega)
      have q4 : IntKind.i64.wrap (Fr.den n d : Int) = (Fr.den n d : Int) := IntWalk.i64_in _ (by omega)
      have q5 : ¬ p = 0 := by omega
      have q6 : ¬ (p : Int) = 0 := by omega
      go_wp2
      go_still_tail 9, (by kernel_rfl)
      change wpList _ _ _ _ _ wr.drew
      clear q1 q2 q3 q4 q5 q6
      go_wp2
      refine bodyPost_ret (v := .agg #[.int .i64 (Fr.num n d : Int), .int .i64 (Fr.den n d : Int)]) (by simp [results, Try.results49, go_sem, e0, e1]) rfl ⟨rfl, ?_⟩
      exact ((BB.out.drew).setCell (by simp) _).setCell (by simp) _
theorem spec_l31Of (n d : Nat) (w : World) (h0 : 0 < d) (hn : n ≤ 1000000000000) (hd : d ≤ 1000000000000) :
    Calls Try.prog 50 #[.int .i64 (n : Int), .int .i64 (d : Int)] w (Bel (.agg #[.int .i64 (Fr.num n d : Int), .int .i64 (Fr.den n d : Int)]) w) := by
  obtain ⟨w1, hw1, Z1, B1, T1⟩ := duo_box w 0 0 24
  obtain ⟨e0, e1, f0, f1⟩ := duo_at T1
  have BB := Lib.hid B1
  have n1 := Fr.num_le n d
  have n2 := Fr.den_le n d
  have g0 := Fr.gpos (n := n) h0
  have q5 : ¬ n.gcd d = 0 := by omega
  have q6 : ¬ (n.gcd d : Int) = 0 := by omega
  have q1 : (n : Int).tdiv (n.gcd d : Int) = (Fr.num n d : Int) := rfl
  have q2 : (d : Int).tdiv (n.gcd d : Int) = (Fr.den n d : Int) := rfl
  have q3 : IntKind.i64.wrap (Fr.num n d : Int) = (Fr.num n d : Int) := IntWalk.i64_in _ (by omega)
  have q4 : IntKind.i64.wrap (Fr.den n d : Int) = (Fr.den n d : Int) := IntWalk.i64_in _ (by omega)
  clear T1 B1
  go_enter Try.func50, Try.ntmps50
  go_wp2_with (go_at_call 41; refine (spec_l31Gcd _ _ _ (by omega) (by omega)).mono ?_; rintro e w' ⟨rfl, rfl⟩)
  go_still_tail 7, (by kernel_rfl)
  change wpList _ _ _ _ _ w1.drew
  clear q1 q2 q3 q4 q5 q6
  go_wp2
  refine bodyPost_ret (v := .agg #[.int .i64 (Fr.num n d : Int), .int .i64 (Fr.den n d : Int)]) (by simp [results, Try.results50, go_sem, e0, e1]) rfl ⟨rfl, ?_⟩
  exact ((BB.out.drew).setCell (by simp) _).setCell (by simp) _
theorem impl_fraction (n d : Nat) (w : World) (h0 : 0 < d) (hn : n ≤ 1000000000000) (hd : d ≤ 1000000000000) :
    Calls Try.prog 46 #[.agg #[.int .i64 (n : Int), .int .i64 (d : Int)]] w (Bel (.tuple #[.agg #[.int .i64 (Fr.rn (Fr.can n d) n d), .int .i64 (Fr.rd (Fr.can n d) n d)], .bool (Fr.can n d)]) w) := by
  obtain ⟨w1, hw1, Z1, B1, T1⟩ := duo_box w n d 60
  obtain ⟨w2, hw2, Z2, B2, T2⟩ := duo_box w1 0 0 24
  have U := Lib.hid (T1.below B2 (by omega))
  rw [Z1] at T2
  have T := Lib.hid T2
  have B := Lib.hid (B1.trans (B2.mono (by omega)))
  obtain ⟨c0, c1, -, -⟩ := duo_at U.out
  have L := Lib.hid (Fr.lim_low (n := n) h0)
  clear B1 B2 T1 T2
  go_enter Try.func46, Try.ntmps46
  go_wp2_with fail
  refine (impl_lowest n d _ h0 hn hd).mono ?_
  rintro e w3 ⟨rfl, b3⟩
  have z3 := b3.size
  obtain ⟨w4, hw4, Z4, B4, T4⟩ := duo_box w3 (Fr.num n d) (Fr.den n d) 60
  have T0 := Lib.hid ((T.out.below b3 (by omega)).below B4 (by omega))
  have B0 := Lib.hid ((B.out.trans (b3.mono (by omega))).trans (B4.mono (by omega)))
  have V := Lib.hid T4
  obtain ⟨d0, d1, -, -⟩ := duo_at T4
  clear b3 c0 c1 hw1 hw2 T4 B4
  go_wp2_with fail
  refine (impl_withinLimits _ _ _).mono ?_
  rintro e w5 ⟨rfl, b5⟩
  rw [L.out]
  have z5 := b5.size
  obtain ⟨c0, c1, -, -⟩ := duo_at (V.out.below b5 (by omega))
  obtain ⟨e0, e1, f0, f1⟩ := duo_at (T0.out.below b5 (by omega))
  have B5 := Lib.hid (B0.out.trans (b5.mono (by omega)))
  clear b5 hw4 d0 d1
  cases hc : Fr.can n d
  · go_wp2
    refine bodyPost_ret (v := .tuple #[.agg #[.int .i64 0, .int .i64 0], .bool false]) (by simp [results, Try.results46, go_sem, e0, e1]) rfl ⟨by rw [hc]; rfl, ?_⟩
    exact (B5.out.setCell (by simp) _).setCell (by simp) _
  · go_wp2
    refine bodyPost_ret (v := .tuple #[.agg #[.int .i64 (Fr.num n d : Int), .int .i64 (Fr.den n d : Int)], .bool true]) (by simp [results, Try.results46, go_sem, e0, e1]) rfl ⟨by rw [hc]; rfl, ?_⟩
    exact (B5.out.setCell (by simp) _).setCell (by simp) _
theorem impl_FracOf (n d : Int) (w : World) :
    Calls Try.prog 27 #[.int .i64 n, .int .i64 d] w (Bel (.tuple #[.agg #[.int .i64 (Fr.ofN n d), .int .i64 (Fr.ofD n d)], .bool (Fr.ofB n d)]) w) := by
  by_cases h : Fr.ofOk n d = true
  · obtain ⟨a, b, rfl, rfl, h1, h2, h3⟩ := Fr.of_nat h
    obtain ⟨k1, k2, k3⟩ := Fr.ofB_yes h
    rw [k1, k2, k3]
    clear k1 k2 k3 h
    obtain ⟨w1, hw1, Z1, B1, T1⟩ := duo_box w 0 0 24
    have T := Lib.hid T1
    have B := Lib.hid B1
    clear T1 B1
    go_enter Try.func27, Try.ntmps27
    go_wp2_with fail
    refine (impl_fraction a b _ h2 (by omega) (by omega)).mono ?_
    rintro e w3 ⟨rfl, b3⟩
    have z3 := b3.size
    obtain ⟨e0, e1, f0, f1⟩ := duo_at (T.out.below b3 (by omega))
    have B3 := Lib.hid (B.out.trans (b3.mono (by omega)))
    clear b3 hw1
    go_wp2
    refine bodyPost_ret (v := .tuple #[.agg #[.int .i64 (Fr.rn (Fr.can a b) a b), .int .i64 (Fr.rd (Fr.can a b) a b)], .bool (Fr.can a b)]) (by simp [results, Try.results27, go_sem, e0, e1]) rfl ⟨rfl, ?_⟩
    exact (B3.out.setCell (by simp) _).setCell (by simp) _
  · obtain ⟨k1, k2, k3⟩ := Fr.ofB_no (n := n) (d := d) (by simpa using h)
    rw [k1, k2, k3]
    clear k1 k2 k3
    have h' : ¬ (0 ≤ n ∧ n ≤ 99999 ∧ 1 ≤ d ∧ d ≤ 99999) := fun x => h (Fr.ofOk_iff.2 x)
    clear h
    by_cases h1 : n < 0
    · go_enter Try.func27, Try.ntmps27
      go_wp2
      exact bodyPost_ret (v := .tuple #[.agg #[.int .i64 0, .int .i64 0], .bool false]) (by simp [results, Try.results27, go_sem]) rfl ⟨rfl, (Below.refl _ _).alloc (Nat.le_refl _) _⟩
    by_cases h2 : 99999 < n
    · go_enter Try.func27, Try.ntmps27
      go_wp2
      exact bodyPost_ret (v := .tuple #[.agg #[.int .i64 0, .int .i64 0], .bool false]) (by simp [results, Try.results27, go_sem]) rfl ⟨rfl, (Below.refl _ _).alloc (Nat.le_refl _) _⟩
    by_cases h3 : d < 1
    · go_enter Try.func27, Try.ntmps27
      go_wp2
      exact bodyPost_ret (v := .tuple #[.agg #[.int .i64 0, .int .i64 0], .bool false]) (by simp [results, Try.results27, go_sem]) rfl ⟨rfl, (Below.refl _ _).alloc (Nat.le_refl _) _⟩
    have h4 : 99999 < d := by omega
    clear h'
    go_enter Try.func27, Try.ntmps27
    go_wp2
    exact bodyPost_ret (v := .tuple #[.agg #[.int .i64 0, .int .i64 0], .bool false]) (by simp [results, Try.results27, go_sem]) rfl ⟨rfl, (Below.refl _ _).alloc (Nat.le_refl _) _⟩
theorem eq_impl_ratio (a b c d : Int) (w : World) : (binOp .eql 60 (.agg #[.int .i64 a, .int .i64 b]) (.agg #[.int .i64 c, .int .i64 d])).run Try.prog w = .ok (.bool (a == c && b == d)) w := by
  have hS : Try.prog.underlying 60 = some (.struct (Try.prog.fieldsOf 60)) := by kernel_rfl
  have hp : Try.prog.stoodInHeld 60 = false := by kernel_rfl
  have u3 := Try.underlying3
  rw [run_eql_struct, show (10000 : Nat) = 9999 + 1 from rfl, run_equalIn_agg w 9999 _ _ _ hS hp]
  simp only [Program.fieldsOf, Try.underlying60]
  go_simp
  by_cases h1 : a = c <;> by_cases h2 : b = d <;> simp [h1, h2]
theorem ne_impl_ratio (a b c d : Int) (w : World) : (binOp .neq 60 (.agg #[.int .i64 a, .int .i64 b]) (.agg #[.int .i64 c, .int .i64 d])).run Try.prog w = .ok (.bool (!(a == c && b == d))) w := by
  have hS : Try.prog.underlying 60 = some (.struct (Try.prog.fieldsOf 60)) := by kernel_rfl
  have hp : Try.prog.stoodInHeld 60 = false := by kernel_rfl
  have u3 := Try.underlying3
  rw [run_neq_struct, show (10000 : Nat) = 9999 + 1 from rfl, run_equalIn_agg w 9999 _ _ _ hS hp]
  simp only [Program.fieldsOf, Try.underlying60]
  go_simp
  by_cases h1 : a = c <;> by_cases h2 : b = d <;> simp [h1, h2]
theorem eqs_impl_ratio (a b : Int) (w : World) : (binOp .eql 60 (.agg #[.int .i64 a, .int .i64 b]) (.agg #[.int .i64 a, .int .i64 b])).run Try.prog w = .ok (.bool true) w := by rw [eq_impl_ratio]; simp
theorem nes_impl_ratio (a b : Int) (w : World) : (binOp .neq 60 (.agg #[.int .i64 a, .int .i64 b]) (.agg #[.int .i64 a, .int .i64 b])).run Try.prog w = .ok (.bool false) w := by rw [ne_impl_ratio]; simp
theorem eq_impl_Frac (a b c d : Int) (w : World) : (binOp .eql 24 (.agg #[.int .i64 a, .int .i64 b]) (.agg #[.int .i64 c, .int .i64 d])).run Try.prog w = .ok (.bool (a == c && b == d)) w := by
  have hS : Try.prog.underlying 24 = some (.struct (Try.prog.fieldsOf 24)) := by kernel_rfl
  have hp : Try.prog.stoodInHeld 24 = false := by kernel_rfl
  have u3 := Try.underlying3
  rw [run_eql_struct, show (10000 : Nat) = 9999 + 1 from rfl, run_equalIn_agg w 9999 _ _ _ hS hp]
  simp only [Program.fieldsOf, Try.underlying24]
  go_simp
  by_cases h1 : a = c <;> by_cases h2 : b = d <;> simp [h1, h2]
theorem ne_impl_Frac (a b c d : Int) (w : World) : (binOp .neq 24 (.agg #[.int .i64 a, .int .i64 b]) (.agg #[.int .i64 c, .int .i64 d])).run Try.prog w = .ok (.bool (!(a == c && b == d))) w := by
  have hS : Try.prog.underlying 24 = some (.struct (Try.prog.fieldsOf 24)) := by kernel_rfl
  have hp : Try.prog.stoodInHeld 24 = false := by kernel_rfl
  have u3 := Try.underlying3
  rw [run_neq_struct, show (10000 : Nat) = 9999 + 1 from rfl, run_equalIn_agg w 9999 _ _ _ hS hp]
  simp only [Program.fieldsOf, Try.underlying24]
  go_simp
  by_cases h1 : a = c <;> by_cases h2 : b = d <;> simp [h1, h2]
theorem eqs_impl_Frac (a b : Int) (w : World) : (binOp .eql 24 (.agg #[.int .i64 a, .int .i64 b]) (.agg #[.int .i64 a, .int .i64 b])).run Try.prog w = .ok (.bool true) w := by rw [eq_impl_Frac]; simp
theorem nes_impl_Frac (a b : Int) (w : World) : (binOp .neq 24 (.agg #[.int .i64 a, .int .i64 b]) (.agg #[.int .i64 a, .int .i64 b])).run Try.prog w = .ok (.bool false) w := by rw [ne_impl_Frac]; simp
theorem impl_FracOk (n d : Int) (w : World) :
    Calls Try.prog 30 #[.agg #[.int .i64 n, .int .i64 d]] w (Bel (.bool (Fr.ok n d)) w) := by
  obtain ⟨w1, hw1, Z1, B1, T1⟩ := duo_box w n d 24
  obtain ⟨w2, hw2, Z2, B2, T2⟩ := duo_box w1 n d 60
  rw [Z1] at T2
  have T := Lib.hid T2
  have B := Lib.hid (B1.trans (B2.mono (by omega)))
  obtain ⟨c0, c1, -, -⟩ := duo_at T1
  obtain ⟨e0, e1, -, -⟩ := duo_at T2
  have S0 : (fun w' : World => w'.cell? ⟨w.heap.size + 1, 0, none⟩ = some (.int .i64 n) ∧ w'.cell? ⟨w.heap.size + 1, 1, none⟩ = some (.int .i64 d)) w2.drew := ⟨e0, e1⟩
  have S := Lib.hid S0
  clear B1 B2 T1 T2 S0
  cases hl : Fr.lim n d
  · have E := Lib.hid (Fr.ok_not_lim hl)
    have HL := Lib.hid hl
    clear hl
    go_enter Try.func30, Try.ntmps30
    go_wp2_with fail
    clear e0 e1 c0 c1 hw1 hw2
    refine wp_region_noPanic ?_
    refine wp_region_held_drew (S := fun w' : World => w'.cell? ⟨w.heap.size + 1, 0, none⟩ = some (.int .i64 n) ∧ w'.cell? ⟨w.heap.size + 1, 1, none⟩ = some (.int .i64 d)) (by kernel_rfl) S.out (fun hHeld => ?_)
    refine wpAnyH_take (i := 0) (v := .agg #[.int .i64 n, .int .i64 d]) rfl (by kernel_rfl) (by kernel_rfl) (by kernel_rfl) (fun _ _ _ h => h) (Or.inl ⟨by kernel_rfl, by intro wS hS; (try dsimp only at hS); first | (go_simp; done) | (go_simp; with_reducible rfl) | rfl⟩) (by assumption) ?_
    simp only [Act.put, List.getElem_toArray, List.getElem_cons_succ, List.getElem_cons_zero, List.setIfInBounds_toArray, List.set_cons_zero, List.set_cons_succ]
    refine wpAnyH_ready (rs := [1]) (by kernel_rfl) (by simp) ?_
    refine AllReadyH.cons rfl (fun K hK => ?_) AllReadyH.nil
    rw [if_pos (by kernel_rfl)]
    go_simp
    go_at_call 48
    refine (impl_withinLimits _ _ _).mono ?_
    rintro e w5 ⟨rfl, b5⟩
    rw [HL.out]
    dsimp only
    refine hK.out _ _ (two_keep hHeld b5) (fun hHeld => ?_)
    clear hK K
    have B5 := Lib.hid (B.out.drew.trans (b5.mono B.out.size))
    clear b5
    refine wpAnyH_take (i := 2) (v := .bool false) rfl (by kernel_rfl) (by kernel_rfl) (by kernel_rfl) (fun _ _ _ h => h) (Or.inl ⟨by kernel_rfl, by intro wS hS; (try dsimp only at hS); first | (go_simp; done) | (go_simp; with_reducible rfl) | rfl⟩) (by assumption) ?_
    simp only [Act.put, List.getElem_toArray, List.getElem_cons_succ, List.getElem_cons_zero, List.setIfInBounds_toArray, List.set_cons_zero, List.set_cons_succ]
    refine wpAnyH_take (i := 3) (v := undef) rfl (by kernel_rfl) (by kernel_rfl) (by kernel_rfl) (fun _ _ _ h => h) (Or.inr ⟨by kernel_rfl, rfl⟩) (by assumption) ?_
    simp only [Act.put, List.getElem_toArray, List.getElem_cons_succ, List.getElem_cons_zero, List.setIfInBounds_toArray, List.set_cons_zero, List.set_cons_succ]
    refine wpAnyH_take (i := 4) (v := undef) rfl (by kernel_rfl) (by kernel_rfl) (by kernel_rfl) (fun _ _ _ h => h) (Or.inr ⟨by kernel_rfl, rfl⟩) (by assumption) ?_
    simp only [Act.put, List.getElem_toArray, List.getElem_cons_succ, List.getElem_cons_zero, List.setIfInBounds_toArray, List.set_cons_zero, List.set_cons_succ]
    refine wpAnyH_take (i := 5) (v := undef) rfl (by kernel_rfl) (by kernel_rfl) (by kernel_rfl) (fun _ _ _ h => h) (Or.inr ⟨by kernel_rfl, rfl⟩) (by assumption) ?_
    simp only [Act.put, List.getElem_toArray, List.getElem_cons_succ, List.getElem_cons_zero, List.setIfInBounds_toArray, List.set_cons_zero, List.set_cons_succ]
    refine wpAnyH_take (i := 6) (v := undef) rfl (by kernel_rfl) (by kernel_rfl) (by kernel_rfl) (fun _ _ _ h => h) (Or.inr ⟨by kernel_rfl, rfl⟩) (by assumption) ?_
    simp only [Act.put, List.getElem_toArray, List.getElem_cons_succ, List.getElem_cons_zero, List.setIfInBounds_toArray, List.set_cons_zero, List.set_cons_succ]
    refine wpAnyH_take (i := 7) (v := .bool false) rfl (by kernel_rfl) (by kernel_rfl) (by kernel_rfl) (fun _ _ _ h => h) (Or.inl ⟨by kernel_rfl, by intro wS hS; (try dsimp only at hS); first | (go_simp; done) | (go_simp; with_reducible rfl) | rfl⟩) (by assumption) ?_
    simp only [Act.put, List.getElem_toArray, List.getElem_cons_succ, List.getElem_cons_zero, List.setIfInBounds_toArray, List.set_cons_zero, List.set_cons_succ]
    refine wpAnyH_take (i := 8) (v := .bool false) rfl (by kernel_rfl) (by kernel_rfl) (by kernel_rfl) (fun _ _ _ h => h) (Or.inl ⟨by kernel_rfl, by intro wS hS; (try dsimp only at hS); first | (go_simp; done) | (go_simp; with_reducible rfl) | rfl⟩) (by assumption) ?_
    simp only [Act.put, List.getElem_toArray, List.getElem_cons_succ, List.getElem_cons_zero, List.setIfInBounds_toArray, List.set_cons_zero, List.set_cons_succ]
    refine wpAnyH_done (by kernel_rfl) ?_ _
    refine NoPanic.normal ?_
    go_wp2
    go_ret
    exact ⟨by rw [E.out]; rfl, B5.out⟩
  · obtain ⟨a, b, rfl, rfl, k1, k2, k3⟩ := Fr.lim_nat hl
    have E := Lib.hid (Fr.low_is hl)
    have Q : ∀ w : World, (binOp .eql 60 (.agg #[.int .i64 (Fr.num a b : Int), .int .i64 (Fr.den a b : Int)]) (.agg #[.int .i64 (a : Int), .int .i64 (b : Int)])).run Try.prog w = .ok (.bool (Fr.ok a b)) w := fun w => by rw [eq_impl_ratio, E.out]
    have HL := Lib.hid hl
    clear hl
    go_enter Try.func30, Try.ntmps30
    go_wp2
    clear e0 e1 c0 c1 hw1 hw2
    go_region_held3 (fun w' : World => w'.cell? ⟨w.heap.size + 1, 0, none⟩ = some (.int .i64 (a : Int)) ∧ w'.cell? ⟨w.heap.size + 1, 1, none⟩ = some (.int .i64 (b : Int))) (first | exact S.out | exact two_keep (by assumption) b5 | exact two_keep (by assumption) b6) (first | (go_at_call 48; refine (impl_withinLimits _ _ _).mono ?_; rintro e w5 ⟨rfl, b5⟩; rw [HL.out]) | (go_at_call 49; refine (impl_lowest _ _ _ k2 (by omega) (by omega)).mono ?_; rintro e w6 ⟨rfl, b6⟩))
    have B6 := Lib.hid ((B.out.drew.trans (b5.mono B.out.size)).trans (b6.mono (Nat.le_trans B.out.size b5.size)))
    clear b5 b6
    go_wp2
    go_ret
    exact ⟨rfl, B6.out⟩
end Go.Proofs.Ytigeffgehckbpab
