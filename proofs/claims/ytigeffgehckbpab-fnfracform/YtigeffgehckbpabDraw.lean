/-
  The reader of drawn inputs: opening it, and a pick. What is drawn is within its bounds; nothing but the reader's own block turns.
-/
import Derived.Test.YtigeffgehckbpabRows
import Derived.Test.YtigeffgehckbpabBase
namespace Go.Proofs.Ytigeffgehckbpab
open Go.RowKit
set_option linter.unusedVariables false
set_option linter.unusedSimpArgs false
def OpenPost (B : Nat) (w : World) (e : Ending) (w' : World) : Prop := e = .returned (.pointer (some ⟨w.heap.size, 0, none⟩)) ∧ Rd B w.heap.size 0 w' ∧ Below w.heap.size w w' ∧ w'.heap.size = w.heap.size + 1
theorem spec_l6Open (B : Nat) (a : Option Addr) (len cap : Nat) (w : World) (hB : B ≤ w.heap.size) (hb : Bys B w a len) (hc : len ≤ cap) (hm : cap ≤ maxLen) :
    Calls Try.prog 31 #[.slice a len cap] w (OpenPost B w) := by
  unfold maxLen at hm
  have fin : ∀ (l c : Nat), l ≤ 2000 → Bys B w a l → OpenPost B w (.returned (.pointer (some ⟨w.heap.size, 0, none⟩))) (w.alloc (.cells #[.slice a l c, .int .i64 0] 70)) := by
    intro l c hl hb'
    have bel : Below w.heap.size w (w.alloc (.cells #[.slice a l c, .int .i64 0] 70)) := (Below.refl _ _).alloc (Nat.le_refl _) _
    refine ⟨rfl, ⟨hB, by simp, ⟨a, l, c, hl, ?_, hb'.below (bel.mono hB)⟩, ⟨0, Nat.le_refl _, ?_, ?_⟩⟩, bel, by simp⟩
    · simp
    · simp
    · simp
  have Hf := Lib.hid fin
  clear fin
  have Hb := Lib.hid hb
  clear hb
  by_cases h : 2000 < len
  · go_enter Try.func31, Try.ntmps31
    go_wp2
    go_ret
    exact Hf.out _ _ (by omega) (Hb.out.cut (by omega))
  · go_enter Try.func31, Try.ntmps31
    go_wp2
    go_ret
    exact Hf.out _ _ (by omega) Hb.out
def PickPost (B b q : Nat) (n : Int) (w : World) (e : Ending) (w' : World) : Prop := ∃ v : Int, Pk n v ∧ e = .returned (.int .i64 v) ∧ Rd B b (q + 1) w' ∧ Kb b w w' ∧ w'.heap.size = w.heap.size
set_option maxHeartbeats 400000 in
theorem spec_pick (B b q : Nat) (n : Int) (w : World) (h : Rd B b q w) (hq : q ≤ 1000000000) :
    Calls Try.prog 47 #[.pointer (some ⟨b, 0, none⟩), .int .i64 n] w (PickPost B b q n w) := by
  have Hr := Lib.hid h
  obtain ⟨h1, h2, ⟨a, len, cap, g1, g2, g3⟩, ⟨p, p1, p2, p3⟩⟩ := h
  have fin : ∀ (v : Int) (m : Nat), Pk n v → PickPost B b q n w (.returned (.int .i64 v)) ((w.setCell ⟨b, 1, none⟩ (.int .i64 ((p : Int) + 1))).drewN m) := by
    intro v m hv
    have kb : Kb b w ((w.setCell ⟨b, 1, none⟩ (.int .i64 ((p : Int) + 1))).drewN m) := ((Kb.refl b w).setCell rfl _).drewN m
    refine ⟨v, hv, rfl, ⟨h1, ?_, ⟨a, len, cap, g1, ?_, g3.below (kb.below (by omega) h1)⟩, ⟨p + 1, by omega, ?_, ?_⟩⟩, kb, ?_⟩
    · simp; omega
    · rw [World.cell?_drewN, cell_other _ _ (by simp)]; exact g2
    · rw [World.cell?_drewN, cell_same _ _ p2]; simp
    · rw [World.frozen?_drewN, World.frozen?_setCell]; exact p3
    · simp
  have fin0 : ∀ (v : Int), Pk n v → PickPost B b q n w (.returned (.int .i64 v)) (w.setCell ⟨b, 1, none⟩ (.int .i64 ((p : Int) + 1))) := fun v hv => fin v 0 hv
  have Hf := Lib.hid fin
  have Hf0 := Lib.hid fin0
  have Hg := Lib.hid g3
  clear fin fin0 Hr g3
  by_cases hn : n < 1
  · have hd : decide (n < 1) = true := by simpa using hn
    go_enter Try.func47, Try.ntmps47
    go_wp2
    go_ret
    exact Hf0.out 0 ⟨by omega, by omega, by omega⟩
  · have hd : decide (n < 1) = false := by simpa using hn
    by_cases hl : len = 0
    · subst hl
      go_enter Try.func47, Try.ntmps47
      go_wp2
      go_ret
      exact Hf0.out 0 ⟨by omega, by omega, by omega⟩
    · have hle : ((len : Int) == 0) = false := by simp; omega
      obtain ⟨bb, off, rfl, k1, k2⟩ := Hg.out (by omega)
      have hne : bb ≠ b := by omega
      by_cases hp : p < len
      · obtain ⟨z, z1, z2, z3⟩ := k2 p hp
        have zc : (w.setCell ⟨b, 1, none⟩ (.int .i64 ((p : Int) + 1))).cell? ⟨bb, off + p, none⟩ = some (.int .u8 z) := by
          rw [cell_other _ _ (by simp only [ne_eq, Addr.mk.injEq, not_and]; omega)]; exact z3
        have K2 := Lib.hid k2
        clear k2 z3
        go_enter Try.func47, Try.ntmps47
        go_wp2
        go_ret
        exact Hf0.out _ ⟨Int.emod_nonneg _ (by omega), fun _ => Int.emod_lt_of_pos _ (by omega), by omega⟩
      · obtain ⟨i1, j1, e1⟩ : ∃ i1 : Nat, i1 < len ∧ (p : Int).tmod (len : Int) = (i1 : Int) := ⟨p % len, Nat.mod_lt _ (by omega), by simp [Int.tmod]⟩
        obtain ⟨i2, j2, e2⟩ : ∃ i2 : Nat, i2 < len ∧ ((p : Int) * 7 + 3).tmod (len : Int) = (i2 : Int) := ⟨(p * 7 + 3) % len, Nat.mod_lt _ (by omega), by rw [show (p : Int) * 7 + 3 = ((p * 7 + 3 : Nat) : Int) by simp]; rfl⟩
        obtain ⟨i3, j3, e3⟩ : ∃ i3 : Nat, i3 ≤ p ∧ (p : Int).tdiv (len : Int) = (i3 : Int) := ⟨p / len, Nat.div_le_self _ _, by rfl⟩
        obtain ⟨z, z1, z2, z3⟩ := k2 i1 j1
        obtain ⟨y, y1, y2, y3⟩ := k2 i2 j2
        have zc : (w.setCell ⟨b, 1, none⟩ (.int .i64 ((p : Int) + 1))).cell? ⟨bb, off + i1, none⟩ = some (.int .u8 z) := by
          rw [cell_other _ _ (by simp only [ne_eq, Addr.mk.injEq, not_and]; omega)]; exact z3
        have yc : (w.setCell ⟨b, 1, none⟩ (.int .i64 ((p : Int) + 1))).cell? ⟨bb, off + i2, none⟩ = some (.int .u8 y) := by
          rw [cell_other _ _ (by simp only [ne_eq, Addr.mk.injEq, not_and]; omega)]; exact y3
        have K2 := Lib.hid k2
        clear k2 z3 y3
        have a1 : IntKind.i64.wrap z = z := IntWalk.i64_in _ (by omega)
        have a2 : IntKind.i64.wrap y = y := IntWalk.i64_in _ (by omega)
        have a3 : IntKind.i64.wrap (z * 131) = z * 131 := IntWalk.i64_in _ (by omega)
        have a4 : IntKind.i64.wrap (y * 1117) = y * 1117 := IntWalk.i64_in _ (by omega)
        have a5 : IntKind.i64.wrap ((p : Int) * 7) = (p : Int) * 7 := IntWalk.i64_in _ (by omega)
        have a6 : IntKind.i64.wrap ((p : Int) * 7 + 3) = (p : Int) * 7 + 3 := IntWalk.i64_in _ (by omega)
        have a7 : IntKind.i64.wrap (z * 131 + y * 1117) = z * 131 + y * 1117 := IntWalk.i64_in _ (by omega)
        have a8 : IntKind.i64.wrap ((p : Int) * 29) = (p : Int) * 29 := IntWalk.i64_in _ (by omega)
        have a9 : IntKind.i64.wrap (z * 131 + y * 1117 + (p : Int) * 29) = z * 131 + y * 1117 + (p : Int) * 29 := IntWalk.i64_in _ (by omega)
        have a10 : IntKind.i64.wrap (i3 : Int) = (i3 : Int) := IntWalk.i64_in _ (by omega)
        have a11 : IntKind.i64.wrap ((i3 : Int) * 53) = (i3 : Int) * 53 := IntWalk.i64_in _ (by omega)
        have a12 : IntKind.i64.wrap (z * 131 + y * 1117 + (p : Int) * 29 + (i3 : Int) * 53) = z * 131 + y * 1117 + (p : Int) * 29 + (i3 : Int) * 53 := IntWalk.i64_in _ (by omega)
        go_enter Try.func47, Try.ntmps47
        go_wp2
        go_quiet (fail)
        generalize hx : z * 131 + y * 1117 + (p : Int) * 29 + (i3 : Int) * 53 = x
        have x1 : 0 ≤ x := by omega
        have x2 : x < 1000000000000 := by omega
        clear a1 a2 a3 a4 a5 a6 a7 a8 a9 a10 a11 a12 hx e1 e2 e3 zc yc
        go_wp2
        go_ret
        obtain ⟨w1, w2⟩ := xor_nn x (x / 64) x1 (by omega) (by omega) (by omega)
        exact Hf.out _ nq ⟨Int.tmod_nonneg _ w1, fun _ => Int.tmod_lt_of_pos _ (by omega), by omega⟩
theorem two_at {B b q : Nat} {w w2 : World} {x y : Value} {t : Nat} (k : Kb b (w.alloc (.cells #[x, y] t)) w2) (hb : b < w.heap.size) :
    w2.cell? ⟨w.heap.size, 0, none⟩ = some x ∧ w2.cell? ⟨w.heap.size, 1, none⟩ = some y := by
  refine ⟨?_, ?_⟩
  · rw [k.cell (p := ⟨w.heap.size, 0, none⟩) (by simp) (by simp; omega)]; simp
  · rw [k.cell (p := ⟨w.heap.size, 1, none⟩) (by simp) (by simp; omega)]; simp
end Go.Proofs.Ytigeffgehckbpab
