/-
  Chapter 32, the program: the account, whose charges are a linked list, and paying.
-/
import Derived.Test.YtigeffgehckbpabLg
import Derived.Test.YtigeffgehckbpabFs
import Derived.Test.YtigeffgehckbpabFrf
import Derived.Deep.RegionHeld3
import Derived.Deep.DeepCutAuto
import Derived.Deep.RegionLaw
namespace Go.Proofs.Ytigeffgehckbpab
open Go.RowKit
set_option linter.unusedVariables false
set_option linter.unusedSimpArgs false
set_option maxRecDepth 20000
/-- A linked list of charges, the newest first, all of it behind block g. -/
def Chain (w : World) (g : Nat) : List (Int × Int) → Option Addr → Prop
  | [], p => p = none
  | f :: fs, p => ∃ k b, p = some ⟨k, 0, none⟩ ∧ g < k ∧ Tri w k [.int .i64 f.1, .int .i64 f.2, .pointer b] 73 ∧ Chain w g fs b
theorem Chain.kb {w w' : World} {g : Nat} : ∀ {fs : List (Int × Int)} {p : Option Addr}, Chain w g fs p → Kb g w w' → Chain w' g fs p
  | [], _, h, _ => h
  | _ :: _, _, ⟨k, b, h1, h2, h3, h4⟩, hk => ⟨k, b, h1, h2, h3.kb hk (by omega), h4.kb hk⟩
/-- An account: its budget, the total, how many charges, the charges, the newest first. -/
structure Acc (w : World) (g : Nat) (c d : Int) (t : Int × Int) (m : Nat) (fs : List (Int × Int)) : Prop where
  lt : g < w.heap.size
  at_ : ∃ p, Tri w g [.int .i64 c, .int .i64 d, .int .i64 t.1, .int .i64 t.2, .int .i64 (m : Int), .pointer p] 59 ∧ Chain w g fs p
theorem Acc.below {w w' : World} {g : Nat} {c d : Int} {t : Int × Int} {m : Nat} {fs : List (Int × Int)} (h : Acc w g c d t m fs) (k : Below w.heap.size w w') : Acc w' g c d t m fs := by
  obtain ⟨hl, p, h1, h2⟩ := h
  exact ⟨Nat.lt_of_lt_of_le hl k.size, p, h1.below k hl, h2.kb (Kb.of_below k)⟩
theorem Acc.cells {w : World} {g : Nat} {c d : Int} {t : Int × Int} {m : Nat} {fs : List (Int × Int)} (h : Acc w g c d t m fs) :
    ∃ p, w.cell? ⟨g, 0, none⟩ = some (.int .i64 c) ∧ w.cell? ⟨g, 1, none⟩ = some (.int .i64 d) ∧ w.cell? ⟨g, 2, none⟩ = some (.int .i64 t.1) ∧ w.cell? ⟨g, 3, none⟩ = some (.int .i64 t.2) ∧ w.cell? ⟨g, 4, none⟩ = some (.int .i64 (m : Int)) ∧ w.cell? ⟨g, 5, none⟩ = some (.pointer p)
      ∧ (w.frozen? ⟨g, 2, none⟩ = false ∧ w.frozen? ⟨g, 3, none⟩ = false ∧ w.frozen? ⟨g, 4, none⟩ = false ∧ w.frozen? ⟨g, 5, none⟩ = false)
      ∧ Hid (Tri w g [.int .i64 c, .int .i64 d, .int .i64 t.1, .int .i64 t.2, .int .i64 (m : Int), .pointer p] 59) ∧ Hid (Chain w g fs p) := by
  obtain ⟨hl, p, h1, h2⟩ := h
  exact ⟨p, h1.at_ 0, h1.at_ 1, h1.at_ 2, h1.at_ 3, h1.at_ 4, h1.at_ 5, ⟨(h1.there 2 (by simp)).2, (h1.there 3 (by simp)).2, (h1.there 4 (by simp)).2, (h1.there 5 (by simp)).2⟩, h1, h2⟩
theorem pay_end {V : World} {g k m : Nat} {c d x y : Int} {t : Int × Int} {fs : List (Int × Int)} {p : Option Addr} (T : Tri V g [.int .i64 c, .int .i64 d, .int .i64 t.1, .int .i64 t.2, .int .i64 ((m : Int) + 1), .pointer p] 59) (C : Chain V g fs p) (hz : V.heap.size = k) (hg : g < k) :
    Acc (((V.setCell ⟨g, 5, none⟩ (.pointer (some ⟨k, 0, none⟩))).alloc (.cells #[.int .i64 x, .int .i64 y, .pointer p] 73)).drew) g c d t (m + 1) ((x, y) :: fs) ∧ Kb g V (((V.setCell ⟨g, 5, none⟩ (.pointer (some ⟨k, 0, none⟩))).alloc (.cells #[.int .i64 x, .int .i64 y, .pointer p] 73)).drew) := by
  subst hz
  have zs : (V.setCell ⟨g, 5, none⟩ (.pointer (some ⟨V.heap.size, 0, none⟩))).heap.size = V.heap.size := by simp [World.setCell]
  have k1 : Kb g V (V.setCell ⟨g, 5, none⟩ (.pointer (some ⟨V.heap.size, 0, none⟩))) := (Kb.refl g V).setCell rfl _
  have k2 := k1.alloc (.cells #[.int .i64 x, .int .i64 y, .pointer p] 73)
  have T1 := T.set (i := 5) (.pointer (some ⟨V.heap.size, 0, none⟩))
  have T2 := T1.below (bel_box _ (.cells #[.int .i64 x, .int .i64 y, .pointer p] 73)) (by omega)
  have T3 := Tri.new (V.setCell ⟨g, 5, none⟩ (.pointer (some ⟨V.heap.size, 0, none⟩))) [.int .i64 x, .int .i64 y, .pointer p] 73
  rw [zs] at T3
  refine ⟨⟨?_, some ⟨V.heap.size, 0, none⟩, T2, V.heap.size, p, rfl, hg, T3, C.kb k2.drew⟩, k2.drew⟩
  have := k2.drew.size; omega
def PayPost (g : Nat) (c d : Int) (t : Int × Int) (m : Nat) (fs : List (Int × Int)) (f : Int × Int) (w : World) (e : Ending) (w' : World) : Prop :=
  e = .returned (.bool (Fr.pays c d t m f)) ∧ Kb g w w' ∧ (Fr.pays c d t m f = false → Acc w' g c d t m fs) ∧ (Fr.pays c d t m f = true → Acc w' g c d (Fr.sN t.1 t.2 f.1 f.2, Fr.sD t.1 t.2 f.1 f.2) (m + 1) (f :: fs))
set_option maxHeartbeats 1000000 in
theorem impl_pay (g : Nat) (c d : Int) (t : Int × Int) (m : Nat) (fs : List (Int × Int)) (x y : Int) (w : World) (h : Acc w g c d t m fs) (hm : m ≤ 8) :
    Calls Try.prog 36 #[.pointer (some ⟨g, 0, none⟩), .agg #[.int .i64 x, .int .i64 y]] w (PayPost g c d t m fs (x, y) w) := by
  obtain ⟨w1, hw1, Z1, B1, T1⟩ := duo_box w x y 24
  have A1 := Lib.hid (h.below B1)
  have hg := h.lt
  have BB := Lib.hid B1
  have TF := Lib.hid T1
  obtain ⟨c0, c1, -, -⟩ := duo_at T1
  obtain ⟨p, a0, a1, a2, a3, a4, a5, -, -, -⟩ := A1.out.cells
  have S1 := Lib.hid (show Hid (Below w1.heap.size w1 w1.drew) ∧ w1.drew.cell? ⟨g, 2, none⟩ = some (.int .i64 t.1) ∧ w1.drew.cell? ⟨g, 3, none⟩ = some (.int .i64 t.2) ∧ w1.drew.cell? ⟨w.heap.size, 0, none⟩ = some (.int .i64 x) ∧ w1.drew.cell? ⟨w.heap.size, 1, none⟩ = some (.int .i64 y) from ⟨Lib.hid (Below.refl _ _).drew, a2, a3, c0, c1⟩)
  have HB := Lib.hid (show g < w1.heap.size ∧ g < w1.heap.size ∧ w.heap.size < w1.heap.size ∧ w.heap.size < w1.heap.size by omega)
  clear h B1 T1
  go_enter Try.func36, Try.ntmps36
  go_wp2_with fail
  clear hw1 c0 c1 a0 a1 a2 a3 a4 a5
  go_cut [5, 6] (fun p q W => SumAt w1 (Fr.sN t.1 t.2 x y) (Fr.sD t.1 t.2 x y) (Fr.sB t.1 t.2 x y) p q W)
  case first =>
    go_region_held3 (fun w' : World => Hid (Below w1.heap.size w1 w') ∧ w'.cell? ⟨g, 2, none⟩ = some (.int .i64 t.1) ∧ w'.cell? ⟨g, 3, none⟩ = some (.int .i64 t.2) ∧ w'.cell? ⟨w.heap.size, 0, none⟩ = some (.int .i64 x) ∧ w'.cell? ⟨w.heap.size, 1, none⟩ = some (.int .i64 y)) (first | exact S1.out | exact reg4_call (by assumption) b5 | exact reg4_call (by assumption) (bel_box _ _) | exact reg4_re HB P7 (by assumption) | exact reg4_set HB (by assumption) (((Below.refl _ _).setCell (by first | omega | (simp; done) | (simp; omega)) _).setCell (by first | omega | (simp; done) | (simp; omega)) _)) (first | (go_at_call 22; refine (impl_FracSum _ _ _ _ _).mono ?_; rintro e w5 ⟨rfl, b5⟩; have P7 := Lib.hid ((reg4_call (W0 := w1) (by assumption) b5).1.out); (first | (have D5 := Duo.now b5; try simp only [Z1] at D5) | (have D5 := Duo.nowD b5; try simp only [Z1] at D5) | have D5 := Duo.more (by assumption) b5 | skip); (try (have d0 := D5.c0; have d1 := D5.c1; have d2 := D5.f0; have d3 := D5.f1)); have y5 := (reg4_call (W0 := w1) (by assumption) b5).1.out.size))
    all_goals
      go_wp2
      go_meet
      first | exact SumAt.new P7.out | exact SumAt.set P7.out D5 (by omega)
  case rest =>
    clear S1 HB
    obtain ⟨k, rfl, rfl, BV, DV, hk⟩ := hcut
    have A2 := Lib.hid (A1.out.below BV)
    have B2 := Lib.hid (BB.out.trans (BV.mono (by omega)))
    have TF2 := Lib.hid (TF.out.below BV (by omega))
    have D2 := Lib.hid DV
    have zc := BV.size
    clear BV DV A1 BB TF
    obtain ⟨p, a0, a1, a2, a3, a4, a5, -, -, -⟩ := A2.out.cells
    cases hs : Fr.sB t.1 t.2 x y
    · have EE := Lib.hid (show Fr.pays c d t m (x, y) = false by simp [Fr.pays, hs])
      clear hs
      go_wp2_with fail
      go_quiet (fail)
      go_wp2
      go_ret
      exact ⟨by rw [EE.out]; rfl, Kb.of_below (below_drewN B2.out _), fun _ => A2.out.below (below_drewN (Below.refl _ _) _), fun e => by rw [EE.out] at e; cases e⟩
    by_cases h8 : m = 8
    · have EE := Lib.hid (show Fr.pays c d t m (x, y) = false by simp [Fr.pays, h8])
      have q8 : ((m : Int) == 8) = true := beqT (by omega)
      clear h8 hs
      go_wp2_with fail
      go_quiet (fail)
      go_wp2
      go_ret
      exact ⟨by rw [EE.out]; rfl, Kb.of_below (below_drewN B2.out _), fun _ => A2.out.below (below_drewN (Below.refl _ _) _), fun e => by rw [EE.out] at e; cases e⟩
    have q8 : ((m : Int) == 8) = false := beqF (by omega)
    have S1 := Lib.hid (show Hid (Below wc.heap.size wc wc.drew) ∧ wc.drew.cell? ⟨g, 4, none⟩ = some (.int .i64 (m : Int)) ∧ wc.drew.cell? ⟨k, 0, none⟩ = some (.int .i64 (Fr.sN t.1 t.2 x y)) ∧ wc.drew.cell? ⟨k, 1, none⟩ = some (.int .i64 (Fr.sD t.1 t.2 x y)) ∧ wc.drew.cell? ⟨g, 0, none⟩ = some (.int .i64 c) ∧ wc.drew.cell? ⟨g, 1, none⟩ = some (.int .i64 d) from ⟨Lib.hid (Below.refl _ _).drew, a4, D2.out.c0, D2.out.c1, a0, a1⟩)
    clear a0 a1 a2 a3 a4 a5
    by_cases hc : Fr.cmp (Fr.sN t.1 t.2 x y) (Fr.sD t.1 t.2 x y) c d ≤ 0
    all_goals
      have qc : decide (0 < Fr.cmp (Fr.sN t.1 t.2 x y) (Fr.sD t.1 t.2 x y) c d) = decide (¬ Fr.cmp (Fr.sN t.1 t.2 x y) (Fr.sD t.1 t.2 x y) c d ≤ 0) := by simp
      simp only [hc, not_true_eq_false, not_false_eq_true, decide_true, decide_false] at qc
      have EE := Lib.hid (show Fr.pays c d t m (x, y) = decide (Fr.cmp (Fr.sN t.1 t.2 x y) (Fr.sD t.1 t.2 x y) c d ≤ 0) by simp [Fr.pays, hs, h8])
      have HC := Lib.hid hc
      go_wp2_with fail
      go_region_held3 (fun w' : World => Hid (Below wc.heap.size wc w') ∧ w'.cell? ⟨g, 4, none⟩ = some (.int .i64 (m : Int)) ∧ w'.cell? ⟨k, 0, none⟩ = some (.int .i64 (Fr.sN t.1 t.2 x y)) ∧ w'.cell? ⟨k, 1, none⟩ = some (.int .i64 (Fr.sD t.1 t.2 x y)) ∧ w'.cell? ⟨g, 0, none⟩ = some (.int .i64 c) ∧ w'.cell? ⟨g, 1, none⟩ = some (.int .i64 d)) (first | exact S1.out | exact reg5_call (by assumption) b5) ((go_at_call 20; refine (impl_FracCmp _ _ _ _ _).mono ?_; rintro e w5 ⟨rfl, b5⟩; have P5 := Lib.hid ((reg5_call (W0 := wc) (by assumption) b5).1.out)))
      have A5 := Lib.hid (A2.out.below P5.out)
      have B5 := Lib.hid (B2.out.trans (P5.out.mono (by omega)))
    · have D5 := Lib.hid (D2.out.more P5.out)
      have TF5 := Lib.hid (TF2.out.below P5.out (by omega))
      obtain ⟨p5, a0, a1, a2, a3, a4, a5, ⟨f2, f3, f4, f5⟩, T5, C5⟩ := A5.out.cells
      obtain ⟨V, hV⟩ : ∃ V, ((w5.setCell ⟨g, 2, none⟩ (.int .i64 (Fr.sN t.1 t.2 x y))).setCell ⟨g, 3, none⟩ (.int .i64 (Fr.sD t.1 t.2 x y))).setCell ⟨g, 4, none⟩ (.int .i64 ((m : Int) + 1)) = V := ⟨_, rfl⟩
      have TV := ((T5.out.set (i := 2) (.int .i64 (Fr.sN t.1 t.2 x y))).set (i := 3) (.int .i64 (Fr.sD t.1 t.2 x y))).set (i := 4) (.int .i64 ((m : Int) + 1))
      have KV := Lib.hid (show Kb g w5 V by rw [← hV]; exact (((Kb.refl g w5).setCell rfl _).setCell rfl _).setCell rfl _)
      rw [hV] at TV
      have TVH := Lib.hid TV
      have z5 := A5.out.lt
      have zV : V.heap.size = w5.heap.size := by rw [← hV]; simp [World.setCell]
      have d0 := D5.out.c0
      have d1 := D5.out.c1
      go_upto_region 6 with fail
      clear a0 a1 a2 a3 a4 a5 d0 d1 f2 f3 f4
      have TFV := Lib.hid (TF5.out.kb KV.out (by omega))
      obtain ⟨c0, c1, -, -⟩ := duo_at TFV.out
      have a5 : V.cell? ⟨g, 5, none⟩ = some (.pointer p5) := TVH.out.at_ 5
      have f5 : V.frozen? ⟨g, 5, none⟩ = false := (TVH.out.there 5 (by simp)).2
      clear TV
      have CV := Lib.hid (C5.out.kb KV.out)
      have AE := Lib.hid (pay_end (x := x) (y := y) (m := m) (c := c) (d := d) (t := (Fr.sN t.1 t.2 x y, Fr.sD t.1 t.2 x y)) TVH.out CV.out zV z5)
      have KE := Lib.hid (((Kb.of_below (b := g) B5.out).trans KV.out).trans (AE.out.2))
      clear TFV TVH CV T5 C5 KV D5 TF5
      go_region_law (fail)
      all_goals
        go_wp2
        go_ret
        exact ⟨by rw [EE.out, decide_eq_true HC.out]; rfl, KE.out, (fun e => by rw [EE.out, decide_eq_true HC.out] at e; cases e), fun _ => AE.out.1⟩
    · go_wp2
      go_ret
      exact ⟨by rw [EE.out, decide_eq_false (by have := HC.out; omega)]; rfl, Kb.of_below B5.out, fun _ => A5.out, fun e => by rw [EE.out, decide_eq_false (by have := HC.out; omega)] at e; cases e⟩
end Go.Proofs.Ytigeffgehckbpab
