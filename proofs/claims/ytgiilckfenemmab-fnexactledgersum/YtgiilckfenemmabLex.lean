/-
  The helpers of the exact laws of chapter 32: size, copying, comparing a ledger.
-/
import Derived.Test.YtgiilckfenemmabOpl
import Derived.Test.YtgiilckfenemmabLee
import Derived.Test.YtgiilckfenemmabFrg
namespace Go.Proofs.Ytgiilckfenemmab
open Go.RowKit
set_option linter.unusedVariables false
set_option linter.unusedSimpArgs false
set_option maxRecDepth 20000
theorem laws_szFracS (a : Option Addr) (n cap : Nat) (q : Int) (w : World) (hq : -1 ≤ q) (hq1 : q ≤ 1048576) (hn : (n : Int) ≤ maxLen) :
    Calls Try.prog 22 #[.slice a n cap, .int .i64 q] w fun e w' => e = .returned (.int .i64 (max (-1) (q - n))) ∧ w = w' := by
  unfold maxLen at hn
  by_cases h : (n : Int) ≤ q
  · rw [show max (-1) (q - n) = q - n by omega]
    go_enter Try.func22, Try.ntmps22
    go_wp2
    go_ret
    exact ⟨rfl, rfl⟩
  · rw [show max (-1) (q - n) = -1 by omega]
    go_enter Try.func22, Try.ntmps22
    go_wp2
    go_ret
    exact ⟨rfl, rfl⟩
theorem laws_szLedger (u v : Int) (a : Option Addr) (n cap : Nat) (q : Int) (w : World) (hq : -1 ≤ q) (hq1 : q ≤ 1048576) (hn : (n : Int) ≤ maxLen) :
    Calls Try.prog 7 #[.agg #[.int .i64 u, .int .i64 v, .slice a n cap], .int .i64 q] w (Bel (.int .i64 (max (-1) (q - n))) w) := by
  obtain ⟨w1, hw1, Z1, B1, T1⟩ := led_box w u v a n cap 26
  have c2 : w1.cell? ⟨w.heap.size, 2, none⟩ = some (.slice a n cap) := T1.at_ 2
  have BB := Lib.hid B1
  clear T1 B1
  by_cases h : (n : Int) ≤ q
  · have C := laws_szFracS a n cap q w1 hq hq1 hn
    rw [show max (-1) (q - n) = q - n by omega] at C ⊢
    go_enter Try.func7, Try.ntmps7
    go_wp2_with (go_at_call 22; refine C.mono ?_; rintro e w' ⟨rfl, rfl⟩)
    go_ret
    exact ⟨rfl, BB.out⟩
  · have C := laws_szFracS a n cap q w1 hq hq1 hn
    rw [show max (-1) (q - n) = -1 by omega] at C ⊢
    go_enter Try.func7, Try.ntmps7
    go_wp2_with (go_at_call 22; refine C.mono ?_; rintro e w' ⟨rfl, rfl⟩)
    go_ret
    exact ⟨rfl, BB.out⟩
/-- The first k fractions copied, the rest zeros. -/
def fill2 (n : Nat) (fs : List (Int × Int)) (k : Nat) : List (Int × Int) := fs.take k ++ List.replicate (n - k) (0, 0)
theorem fill2_zero (n : Nat) (fs : List (Int × Int)) : fill2 n fs 0 = List.replicate n (0, 0) := by simp [fill2]
theorem fill2_all {n : Nat} {fs : List (Int × Int)} (h : fs.length = n) : fill2 n fs n = fs := by subst h; simp [fill2]
theorem fill2_step {n k : Nat} {fs : List (Int × Int)} (h : fs.length = n) (hk : k < n) : (fill2 n fs k).set k (fs.getD k (0, 0)) = fill2 n fs (k + 1) := by
  have hl : (fs.take k).length = k := by simp; omega
  obtain ⟨m, hm⟩ : ∃ m, n - k = m + 1 := ⟨n - k - 1, by omega⟩
  have e : n - (k + 1) = m := by omega
  unfold fill2
  rw [e, hm, List.set_append_right _ _ (by omega), hl, Nat.sub_self, List.replicate_succ, List.set_cons_zero, List.take_add_one, List.getD_eq_getElem?_getD]
  rw [List.getElem?_eq_getElem (by omega), List.append_assoc]
  rfl
theorem fr_info : (Try.prog.info? 29).map (fun i => (i.zero, i.size, i.bytes)) = some (some (.agg #[.int .i64 0, .int .i64 0]), 2, 16) := by kernel_rfl
def NewFrs (fs : List (Int × Int)) (w : World) (e : Ending) (w' : World) : Prop := ∃ a n cap, e = .returned (.slice a n cap) ∧ Of w.heap.size w'.heap.size w' a n cap fs ∧ Below w.heap.size w w'
set_option maxHeartbeats 1000000 in
theorem laws_toFracS (a : Option Addr) (n cap : Nat) (fs : List (Int × Int)) (w : World) (h : Sf w a n fs) (hm : n ≤ 1048576) :
    Calls Try.prog 26 #[.slice a n cap] w (NewFrs fs w) := by
  have L := Lib.hid h.len
  have H := Lib.hid h
  clear h
  obtain ⟨i0, hi0, hz0, hz1, hz2⟩ := infoF fr_info
  have I := Lib.hid (show i0.bytes * n ≤ 281474976710656 by rw [hz2]; omega)
  have M : n ≤ maxLen := by unfold maxLen; omega
  go_enter Try.func26, Try.ntmps26
  go_wp2_with ((with_reducible refine wpList_make_full _ rfl (.tmp 6) (.tmp 6) 30 rfl w.heap.size 29 i0 _ 2 Try.underlying30 hi0 hz0 hz1 .i64 .i64 _ _ n rfl rfl rfl rfl I.out M (Nat.le_refl _) ?_); intro w1 own grow)
  have O := Lib.hid (Of.of_row (fs := List.replicate n (0, 0)) (by rw [← made2]; exact own) (by omega))
  have B := Lib.hid ((Below.refl w.heap.size w).grown grow (Nat.le_refl _) (by simp))
  clear own grow
  go_loopw [4] (fun i wr => ∃ k : Nat, k ≤ n ∧ i = .int .i64 k ∧ Hid (Of w.heap.size wr.heap.size wr (some ⟨w.heap.size, 0, none⟩) n n (fill2 n fs k)) ∧ Hid (Below w.heap.size w wr)) (fun i _ => n - (intOf i).toNat)
  case atStart => exact ⟨0, by omega, rfl, by rw [fill2_zero]; exact O.out, B.out⟩
  case round =>
    obtain ⟨k, hk, rfl, hO, hB⟩ := hrel
    by_cases hlt : k < n
    · obtain ⟨b, off, x, y, rfl, x0, x1, hx⟩ := (H.out.below hB.out).get hlt
      have hgl : w.heap.size < wr.heap.size := by
        obtain ⟨b', off', _, _, e', g1, g2, -⟩ := hO.out.get hlt
        injection e' with e'
        injection e' with e1 e2
        omega
      go_wp2_with (go_at_call 16; refine (laws_toFrac _ _ _).mono ?_; rintro e w5 ⟨rfl, b5⟩; have O5 := Lib.hid ((hO.out.below b5).more (Nat.le_refl _) b5.size); (obtain ⟨b', off', _, _, e', g1, g2, c0', c1', f0', f1', -⟩ := O5.out.get hlt); (obtain ⟨rfl, rfl⟩ : b' = w.heap.size ∧ off' = 0 := by (injection e' with e'; injection e' with e1 e2; exact ⟨e1.symm, e2.symm⟩)); rw [Nat.zero_add] at c0' c1' f0' f1')
      go_roundw
      case rel => exact ⟨k + 1, by omega, by go_num, by
        have O6 := O5.out.set hlt x y
        rw [Nat.zero_add, show (x, y) = fs.getD k (0, 0) from hx.out, fill2_step L.out hlt] at O6
        exact O6.more (Nat.le_refl _) (by simp [World.setCell]), ((hB.out.trans (b5.mono hB.out.size)).setCell (Nat.le_refl _) _).setCell (Nat.le_refl _) _⟩
      case measure => simp [intOf]; omega
    · have e : k = n := by omega
      subst e
      go_wp2
      go_ret
      exact ⟨_, _, _, rfl, by have := hO.out; rw [fill2_all L.out] at this; exact this, hB.out⟩
set_option maxHeartbeats 1000000 in
theorem laws_toLedger (u v : Int) (a : Option Addr) (n cap : Nat) (fs : List (Int × Int)) (w : World) (h : Sf w a n fs) (hm : n ≤ 1048576) :
    Calls Try.prog 9 #[.agg #[.int .i64 u, .int .i64 v, .slice a n cap]] w (LedPost u v fs w) := by
  obtain ⟨w1, hw1, Z1, B1, T1⟩ := led_box w u v a n cap 26
  obtain ⟨w2, hw2, Z2, B2, T2⟩ := led_box w1 0 0 none 0 0 32
  obtain ⟨w3, hw3, Z3, B3, T3⟩ := led_box w2 0 0 none 0 0 32
  rw [Z1] at T2
  rw [Z2, Z1] at T3
  have U1 := T1.below ((B2.trans (B3.mono (by omega)))) (by omega)
  have U2 := T2.below B3 (by omega)
  have B03 := Lib.hid (B1.trans ((B2.trans (B3.mono (by omega))).mono (by omega)))
  obtain ⟨d0, d1, d2, -, -, -⟩ := led_at U1
  have H3 := Lib.hid h
  have UU1 := Lib.hid U1
  have UU2 := Lib.hid U2
  have TT3 := Lib.hid T3
  clear T1 T2 T3 U1 U2 B1 B2 B3 h
  go_enter Try.func9, Try.ntmps9
  go_wp2_with fail
  refine (laws_toFrac _ _ _).mono ?_
  rintro e w4 ⟨rfl, b4⟩
  have z4 := b4.size
  have T4 := TT3.out.below b4 (by omega)
  obtain ⟨e0, e1, e2, e3, e4, e5⟩ := led_at T4
  have V1 := UU1.out.below b4 (by omega)
  have V2 := UU2.out.below b4 (by omega)
  obtain ⟨w5, hw5⟩ : ∃ w5, (w4.setCell ⟨w.heap.size + 1 + 1, 0, none⟩ (.int .i64 u)).setCell ⟨w.heap.size + 1 + 1, 1, none⟩ (.int .i64 v) = w5 := ⟨_, rfl⟩
  have T5 := Lib.hid (show Tri w5 (w.heap.size + 1 + 1) [.int .i64 u, .int .i64 v, .slice none 0 0] 32 by rw [← hw5]; exact (T4.set (i := 0) _).set (i := 1) _)
  have X1 := (show Tri w5 w.heap.size [.int .i64 u, .int .i64 v, .slice a n cap] 26 by rw [← hw5]; exact (V1.far _ (by show w.heap.size + 1 + 1 ≠ _; omega)).far _ (by show w.heap.size + 1 + 1 ≠ _; omega))
  have X2 := Lib.hid (show Tri w5 (w.heap.size + 1) [.int .i64 0, .int .i64 0, .slice none 0 0] 32 by rw [← hw5]; exact (V2.far _ (by show w.heap.size + 1 + 1 ≠ _; omega)).far _ (by show w.heap.size + 1 + 1 ≠ _; omega))
  have B5 := Lib.hid (show Below w.heap.size w w5 by rw [← hw5]; exact ((B03.out.trans (b4.mono (by have := B03.out.size; omega))).setCell (p := ⟨w.heap.size + 1 + 1, 0, none⟩) (by show w.heap.size ≤ w.heap.size + 1 + 1; omega) _).setCell (p := ⟨w.heap.size + 1 + 1, 1, none⟩) (by show w.heap.size ≤ w.heap.size + 1 + 1; omega) _)
  have Z5 : w.heap.size + 1 + 1 < w5.heap.size := by rw [← hw5]; simp [World.setCell]; omega
  obtain ⟨j0, j1, j2, -, -, -⟩ := led_at X1
  clear T4 V1 V2 X1 b4 UU1 UU2 TT3
  go_wp2_with fail
  refine (laws_toFracS _ _ _ _ _ (H3.out.below B5.out) hm).mono ?_
  rintro e w6 ⟨a6, n6, c6, rfl, o6, b6⟩
  have z6 := b6.size
  have T6 := T5.out.below b6 (by omega)
  have X6 := X2.out.below b6 (by omega)
  have B6 := B5.out.trans (b6.mono B5.out.size)
  obtain ⟨k0, k1, k2, -, -, k5⟩ := led_at T6
  obtain ⟨w7, hw7⟩ : ∃ w7, w6.setCell ⟨w.heap.size + 1 + 1, 2, none⟩ (.slice a6 n6 c6) = w7 := ⟨_, rfl⟩
  have T7 : Tri w7 (w.heap.size + 1 + 1) [.int .i64 u, .int .i64 v, .slice a6 n6 c6] 32 := by rw [← hw7]; exact T6.set (i := 2) _
  have X7 : Tri w7 (w.heap.size + 1) [.int .i64 0, .int .i64 0, .slice none 0 0] 32 := by rw [← hw7]; exact X6.far _ (by show w.heap.size + 1 + 1 ≠ _; omega)
  have B7 : Below w.heap.size w w7 := by rw [← hw7]; exact B6.setCell (p := ⟨w.heap.size + 1 + 1, 2, none⟩) (by show w.heap.size ≤ w.heap.size + 1 + 1; omega) _
  have o7 : Of w5.heap.size w6.heap.size w7 a6 n6 c6 fs := by rw [← hw7]; exact of_far o6 (q := ⟨w.heap.size + 1 + 1, 2, none⟩) (.inl (by show w.heap.size + 1 + 1 < _; omega)) _
  have z7 : w7.heap.size = w6.heap.size := by rw [← hw7]; simp [World.setCell]
  obtain ⟨m0, m1, m2, -, -, -⟩ := led_at T7
  obtain ⟨x0, x1, x2, x3, x4, x5⟩ := led_at X7
  have EE := Lib.hid (led_endr (r := w.heap.size + 1) o7 B7 (by omega) (by omega) (by omega) (.int .i64 u) (.int .i64 v) (.slice a6 n6 c6))
  clear T6 X6 B6 T7 X7 B7 o6 o7 b6 T5 X2 B5
  go_wp2
  exact bodyPost_ret (v := .agg #[.int .i64 u, .int .i64 v, .slice a6 n6 c6]) (by simp [results, Try.results9, go_sem, *]) rfl ⟨a6, n6, c6, rfl, EE.out.1, EE.out.2⟩
set_option maxHeartbeats 1000000 in
theorem laws_eqFracS (a a' : Option Addr) (n n' cap cap' : Nat) (fs : List (Int × Int)) (w : World) (h : Sf w a n fs) (h' : Sf w a' n' fs) (hm : n ≤ 1048577) :
    Calls Try.prog 28 #[.slice a n cap, .slice a' n' cap'] w (Bel (.bool true) w) := by
  obtain rfl : n' = n := by rw [← h.len, ← h'.len]
  have H := Lib.hid h
  have H' := Lib.hid h'
  clear h h'
  go_enter Try.func28, Try.ntmps28
  go_wp2
  go_loopw [5] (fun i wr => ∃ (k : Nat), k ≤ n' ∧ i = .int .i64 k ∧ Hid (Below w.heap.size w wr)) (fun i _ => n' - (intOf i).toNat)
  case atStart => exact ⟨0, by omega, rfl, Lib.hid (Below.refl _ _)⟩
  case round =>
    obtain ⟨k, hk, rfl, hB⟩ := hrel
    by_cases hlt : k < n'
    · obtain ⟨b, off, x, y, rfl, x0, x1, hx⟩ := (H.out.below hB.out).get hlt
      obtain ⟨b', off', x', y', rfl, y0, y1, hy⟩ := (H'.out.below hB.out).get hlt
      obtain ⟨rfl, rfl⟩ : x' = x ∧ y' = y := by
        have e := hy.out.trans hx.out.symm
        injection e with e1 e2
        exact ⟨e1, e2⟩
      have i1 : (k : Int) < (n' : Int) := by omega
      have me : (x' == x' && y' == y') = true := by simp
      have S1 := Lib.hid (show Hid (Below wr.heap.size wr wr.drew) ∧ wr.drew.cell? ⟨b, off + k * 2, none⟩ = some (.int .i64 x') ∧ wr.drew.cell? ⟨b, off + k * 2 + 1, none⟩ = some (.int .i64 y') ∧ wr.drew.cell? ⟨b', off' + k * 2, none⟩ = some (.int .i64 x') ∧ wr.drew.cell? ⟨b', off' + k * 2 + 1, none⟩ = some (.int .i64 y') from ⟨Lib.hid (Below.refl _ _).drew, x0, x1, y0, y1⟩)
      go_wp2_with fail
      clear x0 x1 y0 y1
      go_region_held3 (fun w' : World => Hid (Below wr.heap.size wr w') ∧ w'.cell? ⟨b, off + k * 2, none⟩ = some (.int .i64 x') ∧ w'.cell? ⟨b, off + k * 2 + 1, none⟩ = some (.int .i64 y') ∧ w'.cell? ⟨b', off' + k * 2, none⟩ = some (.int .i64 x') ∧ w'.cell? ⟨b', off' + k * 2 + 1, none⟩ = some (.int .i64 y')) (first | exact S1.out | exact reg4_call (by assumption) b5) ((go_at_call 14; refine (laws_eqFrac _ _ _ _ _).mono ?_; rintro e w5 ⟨rfl, b5⟩; rw [me]; have P5 := Lib.hid ((reg4_call (W0 := wr) (by assumption) b5).1.out)))
      all_goals
        go_wp2
        go_roundw
        case rel => exact ⟨k + 1, by omega, by go_num, Lib.hid (hB.out.trans (P5.out.mono hB.out.size))⟩
        case measure => simp [intOf]; omega
    · go_wp2
      go_ret
      exact ⟨rfl, hB.out⟩
set_option maxHeartbeats 1000000 in
theorem laws_eqLedger (u v : Int) (a a' : Option Addr) (n n' cap cap' : Nat) (fs : List (Int × Int)) (w : World) (h : Sf w a n fs) (h' : Sf w a' n' fs) (hm : n ≤ 1048577) :
    Calls Try.prog 11 #[.agg #[.int .i64 u, .int .i64 v, .slice a n cap], .agg #[.int .i64 u, .int .i64 v, .slice a' n' cap']] w (Bel (.bool true) w) := by
  obtain ⟨w1, hw1, Z1, B1, T1⟩ := led_box w u v a n cap 32
  obtain ⟨w2, hw2, Z2, B2, T2⟩ := led_box w1 u v a' n' cap' 32
  rw [Z1] at T2
  have U1 := T1.below B2 (by omega)
  have B02 := Lib.hid (B1.trans (B2.mono (by omega)))
  obtain ⟨d0, d1, d2, -, -, -⟩ := led_at U1
  obtain ⟨f0, f1, f2, -, -, -⟩ := led_at T2
  have UU := Lib.hid U1
  have TT := Lib.hid T2
  have H := Lib.hid h
  have H' := Lib.hid h'
  have me : (u == u && v == v) = true := by simp
  clear T1 T2 U1 B1 B2 h h'
  go_enter Try.func11, Try.ntmps11
  go_wp2_with fail
  refine (laws_eqFrac _ _ _ _ _).mono ?_
  rintro e w3 ⟨rfl, b3⟩
  rw [me]
  have B3 := Lib.hid (B02.out.trans (b3.mono B02.out.size))
  obtain ⟨-, -, g2, -, -, -⟩ := led_at (UU.out.below b3 (by omega))
  obtain ⟨-, -, k2, -, -, -⟩ := led_at (TT.out.below b3 (by omega))
  clear b3 UU TT B02 d0 d1 d2 f0 f1 f2
  go_wp2_with fail
  refine (laws_eqFracS _ _ _ _ _ _ fs _ (H.out.below B3.out) (H'.out.below B3.out) hm).mono ?_
  rintro e w4 ⟨rfl, b4⟩
  have B4 := Lib.hid (B3.out.trans (b4.mono B3.out.size))
  clear b4
  go_wp2
  go_ret
  exact ⟨rfl, B4.out⟩
end Go.Proofs.Ytgiilckfenemmab
