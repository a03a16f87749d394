/-
  Marking a ledger, and looking at its marks.
-/
import Derived.Test.YtgiilckfenemmabLex
namespace Go.Proofs.Ytgiilckfenemmab
open Go.RowKit
set_option linter.unusedVariables false
set_option linter.unusedSimpArgs false
set_option maxRecDepth 20000
set_option maxHeartbeats 1000000 in
theorem laws_heldFracS (a : Option Addr) (n cap : Nat) (q : Int) (w : World) (h : Sl w a (2 * n) (marks q (2 * n))) (hm : n ≤ 1048577) (q0 : 0 ≤ q) (q1 : q ≤ 1099511627776) :
    Calls Try.prog 34 #[.slice a n cap, .int .i64 q] w fun e w' => e = .returned (.int .i64 (q + 2 * n)) ∧ w = w' := by
  have H := Lib.hid h
  clear h
  go_enter Try.func34, Try.ntmps34
  go_wp2
  go_loop [1, 5] (fun q' i => ∃ k : Nat, k ≤ n ∧ q' = .int .i64 (q + 2 * k) ∧ i = .int .i64 k) (fun _ i => n - (intOf i).toNat)
  case atStart => exact ⟨0, by omega, by simp, rfl⟩
  case round =>
    obtain ⟨k, hk, rfl, rfl⟩ := hrel
    by_cases hlt : k < n
    · obtain ⟨b, off, rfl, hc⟩ := H.out.at_ (by omega)
      have c0 := hc (2 * k) (by omega)
      have c1 := hc (2 * k + 1) (by omega)
      rw [marks_get q (by omega), show off + 2 * k = off + k * 2 by omega, show ((2 * k : Nat) : Int) = 2 * (k : Int) by omega] at c0
      rw [marks_get q (by omega), show off + (2 * k + 1) = off + k * 2 + 1 by omega, show q + ((2 * k + 1 : Nat) : Int) = q + 2 * (k : Int) + 1 by omega] at c1
      clear hc
      go_wp2
      go_round
      case rel => exact ⟨k + 1, by omega, by go_num, by go_num⟩
      case measure => simp [intOf]; omega
    · have e : k = n := by omega
      subst e
      go_wp2
      go_ret
      exact ⟨rfl, rfl⟩
def MarkPost2 (lo hi : Nat) (a : Option Addr) (n : Nat) (q : Int) (w : World) (e : Ending) (w' : World) : Prop :=
  e = .returned (.int .i64 (q + 2 * n)) ∧ Own lo hi w' a (2 * n) (2 * n) (marks q (2 * n)) ∧ Chg (fun k => lo ≤ k ∧ k < hi) w w' ∧ w'.heap.size = w.heap.size
set_option maxHeartbeats 1000000 in
theorem laws_markFracS (lo hi : Nat) (a : Option Addr) (n cap : Nat) (fs : List (Int × Int)) (q : Int) (w : World) (h : Of lo hi w a n cap fs) (hm : n ≤ 1048577) (q0 : 0 ≤ q) (q1 : q ≤ 1099511627776) :
    Calls Try.prog 33 #[.slice a n cap, .int .i64 q] w (MarkPost2 lo hi a n q w) := by
  have L := Lib.hid h.row.len
  have H := Lib.hid h.row
  clear h
  go_enter Try.func33, Try.ntmps33
  go_wp2
  go_loopw [1, 5] (fun q' i wr => ∃ k : Nat, k ≤ n ∧ q' = .int .i64 (q + 2 * k) ∧ i = .int .i64 k ∧ Hid (Own lo hi wr a (2 * n) (2 * n) (fill (flat fs) (fun j => q + j) (2 * k))) ∧ Hid (Chg (fun k => lo ≤ k ∧ k < hi) w wr) ∧ Hid (wr.heap.size = w.heap.size)) (fun _ i _ => n - (intOf i).toNat)
  case atStart => exact ⟨0, by omega, by simp, rfl, H.out, Chg.refl _ _, rfl⟩
  case round =>
    obtain ⟨k, hk, rfl, rfl, hO, hC, hS⟩ := hrel
    by_cases hlt : k < n
    · obtain ⟨b, off, rfl, hlo, hhi, -, hc⟩ := hO.out.at_ (by omega)
      have O2 := hO.out.set (k := 2 * k) (by omega) (q + 2 * k)
      have O3 := Lib.hid (O2.set (k := 2 * k + 1) (by omega) (q + 2 * k + 1))
      have C2 := Lib.hid ((hC.out.setCell (q := ⟨b, off + 2 * k, none⟩) (.inl ⟨hlo, hhi⟩) (.int .i64 (q + 2 * k))).setCell (q := ⟨b, off + (2 * k + 1), none⟩) (.inl ⟨hlo, hhi⟩) (.int .i64 (q + 2 * k + 1)))
      obtain ⟨c0, f0⟩ := hc (2 * k) (by omega)
      obtain ⟨c1, f1⟩ := hc (2 * k + 1) (by omega)
      rw [show off + 2 * k = off + k * 2 by omega] at c0 f0 O3 C2
      rw [show off + (2 * k + 1) = off + k * 2 + 1 by omega] at c1 f1 O3 C2
      clear hc O2
      go_wp2
      go_roundw
      case rel => exact ⟨k + 1, by omega, by go_num, by go_num, by
        have := O3.out
        show Own _ _ _ _ _ _ (fill _ _ (2 * k + 1 + 1))
        simpa [fill, Int.add_assoc] using this, C2.out, by show _ = _; simp [hS.out]⟩
      case measure => simp [intOf]; omega
    · have e : k = n := by omega
      subst e
      go_wp2
      go_ret
      refine ⟨rfl, ?_, hC.out, hS.out⟩
      have := hO.out
      rw [← L.out] at this ⊢
      rw [fill_all (ys := marks q (flat fs).length) (marks_len _ _) (fun i hi => by rw [marks_get q hi])] at this
      exact this
theorem laws_heldLedger (u v : Int) (a : Option Addr) (n cap : Nat) (q : Int) (w : World) (h : Sl w a (2 * n) (marks q (2 * n))) (hm : n ≤ 1048577) (q0 : 0 ≤ q) (q1 : q ≤ 1099511627776) :
    Calls Try.prog 19 #[.agg #[.int .i64 u, .int .i64 v, .slice a n cap], .int .i64 q] w (Bel (.int .i64 (q + 2 * n)) w) := by
  obtain ⟨w1, hw1, Z1, B1, T1⟩ := led_box w u v a n cap 32
  have c2 : w1.cell? ⟨w.heap.size, 2, none⟩ = some (.slice a n cap) := T1.at_ 2
  have H := Lib.hid (h.below B1)
  have BB := Lib.hid B1
  clear h T1 B1
  go_enter Try.func19, Try.ntmps19
  go_wp2_with (go_at_call 34; refine (laws_heldFracS _ _ _ _ _ H.out hm q0 q1).mono ?_; rintro e w' ⟨rfl, rfl⟩)
  go_ret
  exact ⟨rfl, BB.out⟩
/-- The row of a ledger marked: what else there is stays, and one block is new. -/
theorem laws_markLedger (lo hi : Nat) (u v : Int) (a : Option Addr) (n cap : Nat) (fs : List (Int × Int)) (q : Int) (w : World) (h : Of lo hi w a n cap fs) (hm : n ≤ 1048577) (q0 : 0 ≤ q) (q1 : q ≤ 1099511627776) :
    Calls Try.prog 18 #[.agg #[.int .i64 u, .int .i64 v, .slice a n cap], .int .i64 q] w fun e w' => ∃ wb, Below w.heap.size w wb ∧ MarkPost2 lo hi a n q wb e w' := by
  obtain ⟨w1, hw1, Z1, B1, T1⟩ := led_box w u v a n cap 32
  have c2 : w1.cell? ⟨w.heap.size, 2, none⟩ = some (.slice a n cap) := T1.at_ 2
  have H := Lib.hid (h.below B1)
  have BB := Lib.hid B1
  clear h T1 B1
  go_enter Try.func18, Try.ntmps18
  go_wp2_with fail
  refine (laws_markFracS lo hi _ _ _ _ _ _ H.out hm q0 q1).mono ?_
  rintro e w2 ⟨rfl, m1, m2, m3⟩
  have M := Lib.hid (And.intro m1 (And.intro m2 m3))
  clear m1 m2 m3
  go_wp2
  go_ret
  exact ⟨w1, BB.out, rfl, M.out.1, M.out.2.1, M.out.2.2⟩
end Go.Proofs.Ytgiilckfenemmab
