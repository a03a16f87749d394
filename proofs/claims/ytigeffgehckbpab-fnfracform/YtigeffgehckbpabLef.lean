/-
  Chapter 32, the program: a ledger as an account; the chapter's functions.
-/
import Derived.Test.YtigeffgehckbpabLee
namespace Go.Proofs.Ytigeffgehckbpab
open Go.RowKit
set_option linter.unusedVariables false
set_option linter.unusedSimpArgs false
set_option maxRecDepth 20000
def AccPost (c d : Int) (fs : List (Int × Int)) (w : World) (e : Ending) (w' : World) : Prop :=
  Below w.heap.size w w' ∧ ((Fr.good c d fs = false ∧ e = .returned (.tuple #[.pointer none, .bool false])) ∨ (Fr.good c d fs = true ∧ ∃ g, e = .returned (.tuple #[.pointer (some ⟨g, 0, none⟩), .bool true]) ∧ w.heap.size ≤ g ∧ Acc w' g c d (Fr.total c d fs) fs.length fs.reverse))
theorem acc_new (w : World) (c d : Int) : ∃ w1, w.alloc (.cells #[.int .i64 c, .int .i64 d, .int .i64 0, .int .i64 1, .int .i64 0, .pointer none] 59) = w1 ∧ w1.heap.size = w.heap.size + 1 ∧ Below w.heap.size w w1 ∧ Acc w1 w.heap.size c d (0, 1) 0 [] :=
  ⟨_, rfl, size_alloc1 _ _, bel_box _ _, by simp, none, Tri.new w [.int .i64 c, .int .i64 d, .int .i64 0, .int .i64 1, .int .i64 0, .pointer none] _, rfl⟩
theorem fr_take {fs : List (Int × Int)} {k : Nat} {x y : Int} (hk : k < fs.length) (h : (x, y) = fs.getD k (0, 0)) : fs = fs.take k ++ (x, y) :: fs.drop (k + 1) ∧ fs.take (k + 1) = fs.take k ++ [(x, y)] := by
  have e : fs[k] = (x, y) := by rw [h, List.getD_eq_getElem?_getD, List.getElem?_eq_getElem hk]; rfl
  refine ⟨?_, by rw [List.take_succ_eq_append_getElem hk, e]⟩
  rw [← e, ← List.drop_eq_getElem_cons hk, List.take_append_drop]
set_option maxHeartbeats 2000000 in
theorem impl_accountOf (c d : Int) (a : Option Addr) (n cap : Nat) (fs : List (Int × Int)) (w : World) (h : Sf w a n fs) (hm : n ≤ 1048577) :
    Calls Try.prog 35 #[.agg #[.int .i64 c, .int .i64 d, .slice a n cap]] w (AccPost c d fs w) := by
  obtain ⟨w1, hw1, Z1, B1, T1⟩ := led_box w c d a n cap 27
  have H0 := Lib.hid h
  have H1 := Lib.hid (h.below B1)
  have BB := Lib.hid B1
  have TR := Lib.hid T1
  have LL := Lib.hid h.len
  obtain ⟨c0, c1, c2, -, -, -⟩ := led_at T1
  clear h B1 T1
  cases hok : Fr.ok c d
  · have G := Lib.hid (Fr.good_cap (fs := fs) hok)
    go_enter Try.func35, Try.ntmps35
    go_wp2_with (go_at_call 30; refine (impl_FracOk _ _ _).mono ?_; rintro e w4 ⟨rfl, b4⟩; rw [hok])
    go_ret2
    exact ⟨BB.out.trans (b4.mono (by omega)), .inl ⟨G.out, rfl⟩⟩
  go_enter Try.func35, Try.ntmps35
  go_wp2_with fail
  refine (impl_FracOk _ _ _).mono ?_
  rintro e w2 ⟨rfl, b2⟩
  rw [hok]
  have HOK := Lib.hid hok
  obtain ⟨w3, hw3, Z3, B3, A3⟩ := acc_new w2 c d
  have z2 := b2.size
  have T3 := (TR.out.below b2 (by omega)).below B3 (by omega)
  have BW := Lib.hid ((BB.out.trans (b2.mono (by omega))).trans (B3.mono (by omega)))
  have AA := Lib.hid A3
  have H3 := Lib.hid ((H1.out.below b2).below B3)
  obtain ⟨e0, e1, e2, -, -, -⟩ := led_at T3
  obtain ⟨e0', e1', e2', -, -, -⟩ := led_at (TR.out.below b2 (by omega))
  clear hok c0 c1 c2 hw1 b2 B3 A3 T3
  go_wp2
  clear hw3 e0 e1 e2 e0' e1' e2'
  have zg : w.heap.size ≤ w2.heap.size := by omega
  go_loopw [19] (fun i wr => ∃ (k : Nat) (t : Int × Int), k ≤ n ∧ k ≤ 8 ∧ i = .int .i64 (k : Int) ∧ Hid (Fr.run c d (0, 1) 0 (fs.take k) = some t) ∧ Hid (Acc wr w2.heap.size c d t k (fs.take k).reverse) ∧ Hid (Below w.heap.size w wr)) (fun i _ => n - (intOf i).toNat)
  case atStart => exact ⟨0, (0, 1), by omega, by omega, rfl, rfl, AA.out, BW.out⟩
  case round =>
    clear BW AA H3
    obtain ⟨k, t, hk, hk8, rfl, hR, hA, hB⟩ := hrel
    by_cases hlt : k < n
    · obtain ⟨b, off, x, y, rfl, x0, x1, hx⟩ := (H0.out.below hB.out).get hlt
      obtain ⟨v, hv, Zv, Bv, Tv⟩ := duo_box wr x y 24
      have AV := Lib.hid (hA.out.below Bv)
      have BV := Lib.hid (hB.out.trans (Bv.mono hB.out.size))
      obtain ⟨f0, f1, -, -⟩ := duo_at Tv
      have E1 := Lib.hid (fr_take (show k < fs.length by have := LL.out; omega) hx.out)
      have i1 : (k : Int) < (n : Int) := by omega
      clear Bv Tv hA
      go_wp2_with fail
      refine (impl_pay w2.heap.size c d t k _ x y _ AV.out hk8).mono ?_
      rintro e w5 ⟨rfl, kb, hno, hyes⟩
      have B5 := Lib.hid (BV.out.trans (kb.below BV.out.size zg))
      have NO := Lib.hid hno
      have YES := Lib.hid hyes
      clear kb hno hyes hv x0 x1 f0 f1 AV BV hB
      cases hp : Fr.pays c d t k (x, y)
      · have G := Lib.hid (Fr.good_no (fs := fs) HOK.out (by rw [E1.out.1]; exact Fr.run_none hR.out (by rw [Nat.zero_add, List.length_take, Nat.min_eq_left (by have := LL.out; omega)]; exact hp)))
        clear hp
        go_wp2
        go_ret2
        exact ⟨B5.out, .inl ⟨G.out, rfl⟩⟩
      · have R2 := Lib.hid (Fr.run_snoc (x, y) hR.out)
        rw [Nat.zero_add, List.length_take, Nat.min_eq_left (by have := LL.out; omega), hp, if_pos rfl, ← E1.out.2] at R2
        have A2 := Lib.hid (YES.out hp)
        have m8 := Fr.pays_m hp
        have E2 := Lib.hid (show (fs.take (k + 1)).reverse = (x, y) :: (fs.take k).reverse by rw [E1.out.2]; simp)
        clear hp NO YES
        go_wp2
        go_roundw
        case rel => exact ⟨k + 1, _, by omega, by omega, by go_num, R2.out, by show Acc _ _ _ _ _ _ _; rw [E2.out]; exact A2.out, B5.out⟩
        case measure => simp [intOf]; omega
    · have e : k = n := by omega
      have ek : fs.take k = fs := List.take_of_length_le (by have := LL.out; omega)
      rw [ek] at hR hA
      obtain ⟨g1, g2⟩ := Fr.good_of HOK.out hR.out
      have G1 := Lib.hid g1
      have A2 := Lib.hid hA.out
      rw [← g2, show k = fs.length by have := LL.out; omega] at A2
      clear g1 g2 ek hR hA
      subst e
      go_wp2
      go_ret2
      exact ⟨hB.out, .inr ⟨G1.out, w2.heap.size, rfl, zg, A2.out⟩⟩
theorem impl_LedgerOk (c d : Int) (a : Option Addr) (n cap : Nat) (fs : List (Int × Int)) (w : World) (h : Sf w a n fs) (hm : n ≤ 1048577) :
    Calls Try.prog 21 #[.agg #[.int .i64 c, .int .i64 d, .slice a n cap]] w (Bel (.bool (Fr.good c d fs)) w) := by
  obtain ⟨w1, hw1, Z1, B1, T1⟩ := led_box w c d a n cap 27
  have H1 := Lib.hid (h.below B1)
  have BB := Lib.hid B1
  obtain ⟨c0, c1, c2, -, -, -⟩ := led_at T1
  clear h B1 T1
  go_enter Try.func21, Try.ntmps21
  go_wp2_with fail
  refine (impl_accountOf c d a n cap fs w1 H1.out hm).mono ?_
  rintro e w2 ⟨b2, ⟨hg, rfl⟩ | ⟨hg, g, rfl, zg, ha⟩⟩
  all_goals
    have B2 := Lib.hid (BB.out.trans (b2.mono (by omega)))
    have HG := Lib.hid hg
    clear b2 hg c0 c1 c2 hw1
  · go_wp2
    go_ret
    exact ⟨by rw [HG.out]; rfl, B2.out⟩
  · go_wp2
    go_ret
    exact ⟨by rw [HG.out]; rfl, B2.out⟩
theorem impl_LedgerSum (c d : Int) (a : Option Addr) (n cap : Nat) (fs : List (Int × Int)) (w : World) (h : Sf w a n fs) (hm : n ≤ 1048577) :
    Calls Try.prog 19 #[.agg #[.int .i64 c, .int .i64 d, .slice a n cap]] w (Bel (.tuple #[.agg #[.int .i64 (Fr.total c d fs).1, .int .i64 (Fr.total c d fs).2], .bool (Fr.good c d fs)]) w) := by
  obtain ⟨w1, hw1, Z1, B1, T1⟩ := led_box w c d a n cap 27
  obtain ⟨w2, hw2, Z2, B2, T2⟩ := duo_box w1 0 0 24
  rw [Z1] at T2
  have H1 := Lib.hid ((h.below B1).below B2)
  have BB := Lib.hid (B1.trans (B2.mono (by omega)))
  have TR := Lib.hid T2
  obtain ⟨c0, c1, c2, -, -, -⟩ := led_at (T1.below B2 (by omega))
  clear h B1 T1 B2 T2
  go_enter Try.func19, Try.ntmps19
  go_wp2_with fail
  refine (impl_accountOf c d a n cap fs w2 H1.out hm).mono ?_
  rintro e w4 ⟨b4, ⟨hg, rfl⟩ | ⟨hg, g, rfl, zg, ha⟩⟩
  all_goals
    have B4 := Lib.hid (BB.out.trans (b4.mono (by omega)))
    obtain ⟨e0, e1, f0, f1⟩ := duo_at (TR.out.below b4 (by omega))
    clear b4 c0 c1 c2 hw1 hw2
  · have HG := Lib.hid (show (Fr.total c d fs).1 = 0 ∧ (Fr.total c d fs).2 = 0 by simp [Fr.total, hg])
    have HH := Lib.hid hg
    clear hg
    go_wp2
    exact bodyPost_ret (v := .tuple #[.agg #[.int .i64 0, .int .i64 0], .bool false]) (by simp [results, Try.results19, go_sem, e0, e1]) rfl ⟨by rw [HG.out.1, HG.out.2, HH.out], (B4.out.setCell (by simp) _).setCell (by simp) _⟩
  · obtain ⟨p, -, -, a2, a3, -, -, -, -, -⟩ := ha.cells
    have HH := Lib.hid hg
    clear hg ha
    go_wp2
    exact bodyPost_ret (v := .tuple #[.agg #[.int .i64 (Fr.total c d fs).1, .int .i64 (Fr.total c d fs).2], .bool true]) (by simp [results, Try.results19, go_sem, e0, e1]) rfl ⟨by rw [HH.out], (B4.out.setCell (by simp) _).setCell (by simp) _⟩
def LpPost (c d : Int) (fs : List (Int × Int)) (x y : Int) (w : World) (e : Ending) (w' : World) : Prop := ∃ a n cap, e = .returned (.tuple #[.agg #[.int .i64 (Fr.pC c d fs x y), .int .i64 (Fr.pD c d fs x y), .slice a n cap], .bool (Fr.pB c d fs x y)]) ∧ Of w.heap.size w'.heap.size w' a n cap (Fr.pL c d fs x y) ∧ Below w.heap.size w w'
set_option maxHeartbeats 1000000 in
theorem impl_LedgerPay (c d : Int) (a : Option Addr) (n cap : Nat) (fs : List (Int × Int)) (x y : Int) (w : World) (h : Sf w a n fs) (hm : n ≤ 1048576) :
    Calls Try.prog 14 #[.agg #[.int .i64 c, .int .i64 d, .slice a n cap], .agg #[.int .i64 x, .int .i64 y]] w (LpPost c d fs x y w) := by
  obtain ⟨w1, hw1, Z1, B1, T1⟩ := led_box w c d a n cap 27
  obtain ⟨w2, hw2, Z2, B2, T2⟩ := duo_box w1 x y 24
  obtain ⟨w3, hw3, Z3, B3, T3⟩ := led_box w2 0 0 none 0 0 27
  rw [Z1] at Z2 T2
  rw [show w.heap.size + 1 + 1 = w.heap.size + 2 by omega] at Z2
  rw [Z2] at Z3 T3
  have H3 := Lib.hid (((h.below B1).below B2).below B3)
  have B30 := Lib.hid ((B1.trans (B2.mono (by omega))).trans (B3.mono (by omega)))
  have TF := Lib.hid (T2.below B3 (by omega))
  have TR := Lib.hid T3
  have LL := Lib.hid h.len
  obtain ⟨c0, c1, c2, -, -, -⟩ := led_at ((T1.below B2 (by omega)).below B3 (by omega))
  clear h B1 T1 B2 T2 B3 T3
  go_enter Try.func14, Try.ntmps14
  go_wp2_with fail
  refine (impl_accountOf c d a n cap fs w3 H3.out (by omega)).mono ?_
  rintro e w4 ⟨b4, ⟨hg, rfl⟩ | ⟨hg, g, rfl, zg, ha⟩⟩
  · have B4 := Lib.hid (B30.out.trans (b4.mono (by omega)))
    obtain ⟨e0, e1, e2, f0, f1, f2⟩ := led_at (TR.out.below b4 (by omega))
    have z4 := b4.size
    obtain ⟨k1, k2, k3, k4⟩ := Fr.p_no (Fr.may_g (x := x) (y := y) hg)
    have K := Lib.hid (And.intro k1 (And.intro k2 (And.intro k3 k4)))
    have EE := Lib.hid (led_endr (r := w.heap.size + 2) (Of.nil (w.heap.size + 3) w4.heap.size w4 none 0 (Nat.zero_le _)) B4.out (by omega) (by omega) (Nat.le_refl _) (.int .i64 0) (.int .i64 0) (.slice none 0 0))
    clear b4 c0 c1 c2 hw1 hw2 hw3 k1 k2 k3 k4 hg
    go_wp2
    exact bodyPost_ret (v := .tuple #[.agg #[.int .i64 0, .int .i64 0, .slice none 0 0], .bool false]) (by simp [results, Try.results14, go_sem, e0, e1, e2]) rfl ⟨none, 0, 0, by rw [K.out.1, K.out.2.1, K.out.2.2.1], by rw [K.out.2.2.2]; exact EE.out.1, EE.out.2⟩
  have z4 := b4.size
  have B4 := Lib.hid (B30.out.trans (b4.mono (by omega)))
  have TR4 := Lib.hid (TR.out.below b4 (by omega))
  have TF4 := Lib.hid (TF.out.below b4 (by omega))
  have A4 := Lib.hid ha
  have HG := Lib.hid hg
  obtain ⟨f0, f1, -, -⟩ := duo_at TF4.out
  clear b4 c0 c1 c2 hw1 hw2 hw3 ha hg
  go_wp2_with fail
  refine (impl_FracOk _ _ _).mono ?_
  rintro e w5 ⟨rfl, b5⟩
  have z5 := b5.size
  have B5 := Lib.hid (B4.out.trans (b5.mono (by omega)))
  have TR5 := Lib.hid (TR4.out.below b5 (by omega))
  have TF5 := Lib.hid (TF4.out.below b5 (by omega))
  have A5 := Lib.hid (A4.out.below b5)
  clear b5 f0 f1 A4 TF4 TR4 B4
  cases hf : Fr.ok x y
  · obtain ⟨e0, e1, e2, f0, f1, f2⟩ := led_at TR5.out
    obtain ⟨k1, k2, k3, k4⟩ := Fr.p_no (Fr.may_f (c := c) (d := d) (fs := fs) hf)
    have K := Lib.hid (And.intro k1 (And.intro k2 (And.intro k3 k4)))
    have EE := Lib.hid (led_endr (r := w.heap.size + 2) (Of.nil (w.heap.size + 3) w5.heap.size w5 none 0 (Nat.zero_le _)) B5.out (by omega) (by omega) (Nat.le_refl _) (.int .i64 0) (.int .i64 0) (.slice none 0 0))
    clear k1 k2 k3 k4 hf
    go_wp2
    exact bodyPost_ret (v := .tuple #[.agg #[.int .i64 0, .int .i64 0, .slice none 0 0], .bool false]) (by simp [results, Try.results14, go_sem, e0, e1, e2]) rfl ⟨none, 0, 0, by rw [K.out.1, K.out.2.1, K.out.2.2.1], by rw [K.out.2.2.2]; exact EE.out.1, EE.out.2⟩
  have MY := Lib.hid (Fr.may_y HG.out hf)
  obtain ⟨gs1, gs2⟩ := Fr.good_snoc (f := (x, y)) HG.out
  have GS := Lib.hid gs1
  have L8 := (Fr.good_len HG.out).2
  obtain ⟨f0, f1, -, -⟩ := duo_at TF5.out
  clear hf gs1 gs2
  go_wp2_with fail
  refine (impl_pay g c d _ _ _ x y w5 A5.out L8).mono ?_
  rintro e w6 ⟨rfl, kb, hno, hyes⟩
  have z6 := kb.size
  have TR6 := Lib.hid (TR5.out.kb kb (by omega))
  have B6 := Lib.hid (B5.out.trans (kb.below (B := w.heap.size) (by omega) (by omega)))
  have NO := Lib.hid hno
  have YES := Lib.hid hyes
  clear kb hno hyes f0 f1 A5 TR5 TF5 B5
  cases hp : Fr.pays c d (Fr.total c d fs) fs.length (x, y)
  · obtain ⟨k1, k2, k3, k4⟩ := Fr.p_not MY.out (GS.out.trans hp)
    have K := Lib.hid (And.intro k1 (And.intro k2 (And.intro k3 k4)))
    have A6 := Lib.hid (NO.out hp)
    clear k1 k2 k3 k4 hp NO YES
    go_wp2_with fail
    refine (impl_ledger g c d _ _ _ w6 A6.out (by simp; have := LL.out; omega)).mono ?_
    rintro e w7 ⟨a7, n7, cap7, rfl, o7, b7⟩
    rw [List.reverse_reverse] at o7
    have z7 := b7.size
    obtain ⟨e0, e1, e2, f0, f1, f2⟩ := led_at (TR6.out.below b7 (by omega))
    have EE := Lib.hid (led_endr (r := w.heap.size + 2) o7 (B6.out.trans (b7.mono (by omega))) (by omega) (by omega) (Nat.le_refl _) (.int .i64 c) (.int .i64 d) (.slice a7 n7 cap7))
    clear o7 b7
    go_wp2
    exact bodyPost_ret (v := .tuple #[.agg #[.int .i64 c, .int .i64 d, .slice a7 n7 cap7], .bool false]) (by simp [results, Try.results14, go_sem, e0, e1, e2]) rfl ⟨a7, n7, cap7, by rw [K.out.1, K.out.2.1, K.out.2.2.1], by rw [K.out.2.2.2]; exact EE.out.1, EE.out.2⟩
  · obtain ⟨k1, k2, k3, k4⟩ := Fr.p_yes MY.out (GS.out.trans hp)
    have K := Lib.hid (And.intro k1 (And.intro k2 (And.intro k3 k4)))
    have A6 := Lib.hid (YES.out hp)
    clear k1 k2 k3 k4 hp NO YES
    go_wp2_with fail
    refine (impl_ledger g c d _ _ _ w6 A6.out (by simp; have := LL.out; omega)).mono ?_
    rintro e w7 ⟨a7, n7, cap7, rfl, o7, b7⟩
    rw [List.reverse_cons, List.reverse_reverse] at o7
    have z7 := b7.size
    obtain ⟨e0, e1, e2, f0, f1, f2⟩ := led_at (TR6.out.below b7 (by omega))
    have EE := Lib.hid (led_endr (r := w.heap.size + 2) o7 (B6.out.trans (b7.mono (by omega))) (by omega) (by omega) (Nat.le_refl _) (.int .i64 c) (.int .i64 d) (.slice a7 n7 cap7))
    clear o7 b7
    go_wp2
    exact bodyPost_ret (v := .tuple #[.agg #[.int .i64 c, .int .i64 d, .slice a7 n7 cap7], .bool true]) (by simp [results, Try.results14, go_sem, e0, e1, e2]) rfl ⟨a7, n7, cap7, by rw [K.out.1, K.out.2.1, K.out.2.2.1], by rw [K.out.2.2.2]; exact EE.out.1, EE.out.2⟩
theorem impl_LedgerCan (c d : Int) (a : Option Addr) (n cap : Nat) (fs : List (Int × Int)) (x y : Int) (w : World) (h : Sf w a n fs) (hm : n ≤ 1048576) :
    Calls Try.prog 18 #[.agg #[.int .i64 c, .int .i64 d, .slice a n cap], .agg #[.int .i64 x, .int .i64 y]] w (Bel (.bool (Fr.pB c d fs x y)) w) := by
  obtain ⟨w1, hw1, Z1, B1, T1⟩ := led_box w c d a n cap 27
  obtain ⟨w2, hw2, Z2, B2, T2⟩ := duo_box w1 x y 24
  rw [Z1] at T2
  have H2 := Lib.hid ((h.below B1).below B2)
  have B20 := Lib.hid (B1.trans (B2.mono (by omega)))
  obtain ⟨f0, f1, -, -⟩ := duo_at T2
  obtain ⟨c0, c1, c2, -, -, -⟩ := led_at (T1.below B2 (by omega))
  clear h B1 T1 B2 T2
  go_enter Try.func18, Try.ntmps18
  go_wp2_with fail
  refine (impl_LedgerPay c d a n cap fs x y w2 H2.out hm).mono ?_
  rintro e w4 ⟨a4, n4, c4, rfl, o4, b4⟩
  have B4 := Lib.hid (B20.out.trans (b4.mono (by omega)))
  have z4 := b4.size
  clear o4 b4 f0 f1 c0 c1 c2 hw1 hw2
  go_wp2
  go_ret
  exact ⟨rfl, B4.out.alloc (by omega) _⟩
end Go.Proofs.Ytigeffgehckbpab
