/-
  Chapter 12: the program's wellFormed, ProofOk, ProofAll: a malformed proof is an error value.
-/
import Derived.Test.YtmfmhhopnmglcaaDoorPfi
import Derived.Test.YtmfmhhopnmglcaaDoorPfl
import Derived.Test.YtmfmhhopnmglcaaDoorScl
import Derived.Test.YtmfmhhopnmglcaaDoorEis
import Derived.RegionTactic
namespace Go.Proofs.YtmfmhhopnmglcaaDoor
open Go.RowKit
set_option linter.unusedVariables false
set_option linter.unusedSimpArgs false
set_option maxRecDepth 20000
namespace Fp
/-- Whether a proof is well formed for as many numbers. -/
def wf (many : Nat) (u v : Int) (h : List Int) : Bool := ok u && ok v && decide (h.length = 2 * many + 1) && pok h
theorem wf_iff {many : Nat} {u v : Int} {h : List Int} : wf many u v h = true ↔ ok u = true ∧ ok v = true ∧ h.length = 2 * many + 1 ∧ pok h = true := by simp [wf, and_assoc]
end Fp
/-- A struct in a new block of three cells. -/
theorem tri_new (w : World) (t : TypeId) : ∃ w1, w.alloc (.cells #[.int .i64 0, .int .i64 0, .slice none 0 0] t) = w1 ∧ w1.heap.size = w.heap.size + 1 ∧ Below w.heap.size w w1 ∧ Tri w1 w.heap.size (prc 0 0 none 0 0) t :=
  ⟨_, rfl, size_alloc1 _ _, (Below.refl _ _).alloc (Nat.le_refl _) _, Tri.new _ _ _⟩
theorem Tri.three' {w : World} {g : Nat} {u v : Int} {a : Option Addr} {n c : Nat} {t : TypeId} (h : Tri w g (prc u v a n c) t) : w.cell? ⟨g, 0, none⟩ = some (.int .i64 u) ∧ w.cell? ⟨g, 1, none⟩ = some (.int .i64 v) ∧ w.cell? ⟨g, 2, none⟩ = some (.slice a n c) ∧ w.frozen? ⟨g, 0, none⟩ = false ∧ w.frozen? ⟨g, 1, none⟩ = false ∧ w.frozen? ⟨g, 2, none⟩ = false :=
  ⟨h.at_ 0, h.at_ 1, h.at_ 2, (h.there 0 (by simp [prc])).2, (h.there 1 (by simp [prc])).2, (h.there 2 (by simp [prc])).2⟩
/-- What it answers: the error. -/
def Malf (ea : Addr) (w : World) (e : Ending) (w' : World) : Prop := e = .returned (.tuple #[.agg #[.int .i64 0, .int .i64 0, .slice none 0 0], .iface 122 (.pointer (some ea))]) ∧ Below w.heap.size w w'
/-- .. the proof. -/
def Form (u v : Int) (a : Option Addr) (n cap : Nat) (w : World) (e : Ending) (w' : World) : Prop := e = .returned (.tuple #[.agg #[.int .i64 u, .int .i64 v, .slice a n cap], .nilIface]) ∧ Below w.heap.size w w'
set_option maxHeartbeats 1000000 in
theorem impl_wellFormed_no (many : Nat) (u v : Int) (a : Option Addr) (n cap : Nat) (zs : List Int) (w : World) (ea : Addr) (he : Err w ea) (h : Sl w a n zs) (hm : many ≤ 4) (hf : Fp.wf many u v zs = false) :
    Calls Tryd.prog 39 #[.int .i64 (many : Int), .agg #[.int .i64 u, .int .i64 v, .slice a n cap]] w (Malf ea w) := by
  obtain ⟨w1, hw1, Z1, B1, T1⟩ := prf_box w u v a n cap 28
  obtain ⟨w2, hw2, Z2, B2, T2⟩ := tri_new w1 58
  have E2 := (he.below B1).below B2
  have e2 : w2.cell? ⟨0, 0, none⟩ = some (.iface 122 (.pointer (some ea))) := E2
  have B := B1.trans (B2.mono (by omega))
  obtain ⟨c0, c1, c2, -, -, -⟩ := (T1.below B2 (by omega)).three'
  rw [Z1] at T2
  have H := Lib.hid (h.below B)
  have L := h.len
  have f1 : IntKind.i64.wrap (2 * (many : Int)) = 2 * (many : Int) := IntWalk.i64_in _ (by omega)
  have f2 : IntKind.i64.wrap (2 * (many : Int) + 1) = 2 * (many : Int) + 1 := IntWalk.i64_in _ (by omega)
  obtain ⟨q0, q1, q2, q3, q4, q5⟩ := T2.three'
  have R := Lib.hid (show (w2.drew.setCells (w.heap.size + 1) 0 (prc 0 0 none 0 0)).rangeAt (w.heap.size + 1) 0 (prc 0 0 none 0 0) from World.rangeAt_setCells_same _ _ _ _ T2.there)
  have BB := Lib.hid (below_cells (show w.heap.size ≤ w.heap.size + 1 by omega) (prc 0 0 none 0 0) 0 B.drew)
  obtain ⟨d, D1, D2, D3⟩ := prf_desc'
  have fin : Hid (Malf ea w (.returned (.tuple #[.agg (prc 0 0 none 0 0).toArray, .iface 122 (.pointer (some ea))])) (w2.drew.setCells (w.heap.size + 1) 0 (prc 0 0 none 0 0))) := ⟨rfl, BB.out⟩
  clear h T1 T2 B1 B2 B E2 he
  cases hu : Fp.ok u
  · clear hf
    go_enter Tryd.func39, Tryd.ntmps39
    go_wp2_with (first | (go_at_call 48; (with_reducible refine (impl_FieldOk _ _).mono ?_); rintro e w' ⟨rfl, rfl⟩))
    go_region
    all_goals
      go_wp2
      refine bodyPost_ret (v := .tuple #[.agg (prc 0 0 none 0 0).toArray, .iface 122 (.pointer (some ea))]) (results_mid2 rfl _ _ (w.heap.size + 1) (prc 0 0 none 0 0) _ _ rfl rfl R.out D1 D2 D3) rfl ?_
      exact fin.out
  cases hv : Fp.ok v
  · clear hf
    go_enter Tryd.func39, Tryd.ntmps39
    go_wp2_with (first | (go_at_call 48; (with_reducible refine (impl_FieldOk _ _).mono ?_); rintro e w' ⟨rfl, rfl⟩))
    go_region
    all_goals
      go_wp2
      refine bodyPost_ret (v := .tuple #[.agg (prc 0 0 none 0 0).toArray, .iface 122 (.pointer (some ea))]) (results_mid2 rfl _ _ (w.heap.size + 1) (prc 0 0 none 0 0) _ _ rfl rfl R.out D1 D2 D3) rfl ?_
      exact fin.out
  by_cases hl : n = 2 * many + 1
  · have hp : Fp.pok zs = false := by simpa [Fp.wf, hu, hv, L, hl] using hf
    have d1 : ((n : Int) == 2 * (many : Int) + 1) = true := beqT (by omega)
    have d2 : ((n : Int) != 2 * (many : Int) + 1) = false := by rw [bne, d1]; rfl
    clear hf hl L
    go_enter Tryd.func39, Tryd.ntmps39
    go_wp2_with (first | (go_at_call 48; (with_reducible refine (impl_FieldOk _ _).mono ?_); rintro e w' ⟨rfl, rfl⟩) | (go_at_call 65; refine (impl_PolyOk _ _ _ _ _ H.out).mono ?_; rintro e w' ⟨rfl, rfl⟩; rw [hp]))
    go_region
    all_goals
      go_wp2
      refine bodyPost_ret (v := .tuple #[.agg (prc 0 0 none 0 0).toArray, .iface 122 (.pointer (some ea))]) (results_mid2 rfl _ _ (w.heap.size + 1) (prc 0 0 none 0 0) _ _ rfl rfl R.out D1 D2 D3) rfl ?_
      exact fin.out
  · have d1 : ((n : Int) == 2 * (many : Int) + 1) = false := beqF (by omega)
    have d2 : ((n : Int) != 2 * (many : Int) + 1) = true := by rw [bne, d1]; rfl
    clear hf hl L
    go_enter Tryd.func39, Tryd.ntmps39
    go_wp2_with (first | (go_at_call 48; (with_reducible refine (impl_FieldOk _ _).mono ?_); rintro e w' ⟨rfl, rfl⟩))
    go_region
    all_goals
      go_wp2
      refine bodyPost_ret (v := .tuple #[.agg (prc 0 0 none 0 0).toArray, .iface 122 (.pointer (some ea))]) (results_mid2 rfl _ _ (w.heap.size + 1) (prc 0 0 none 0 0) _ _ rfl rfl R.out D1 D2 D3) rfl ?_
      exact fin.out
theorem impl_wellFormed_yes (many : Nat) (u v : Int) (a : Option Addr) (n cap : Nat) (zs : List Int) (w : World) (h : Sl w a n zs) (hm : many ≤ 4) (hf : Fp.wf many u v zs = true) :
    Calls Tryd.prog 39 #[.int .i64 (many : Int), .agg #[.int .i64 u, .int .i64 v, .slice a n cap]] w (Form u v a n cap w) := by
  obtain ⟨hu, hv, hl, hp⟩ := Fp.wf_iff.1 hf
  obtain ⟨w1, hw1, Z1, B1, T1⟩ := prf_box w u v a n cap 28
  obtain ⟨w2, hw2, Z2, B2, T2⟩ := tri_new w1 58
  have B := B1.trans (B2.mono (by omega))
  obtain ⟨c0, c1, c2, -, -, -⟩ := (T1.below B2 (by omega)).three'
  rw [Z1] at T2
  have H := Lib.hid (h.below B)
  have f1 : IntKind.i64.wrap (2 * (many : Int)) = 2 * (many : Int) := IntWalk.i64_in _ (by omega)
  have f2 : IntKind.i64.wrap (2 * (many : Int) + 1) = 2 * (many : Int) + 1 := IntWalk.i64_in _ (by omega)
  have d1 : ((n : Int) == 2 * (many : Int) + 1) = true := beqT (by rw [← h.len, hl]; omega)
  have d2 : ((n : Int) != 2 * (many : Int) + 1) = false := by rw [bne, d1]; rfl
  have NT := Lib.hid T2.there
  have R := Lib.hid (show (w2.setCells (w.heap.size + 1) 0 (prc u v a n cap)).rangeAt (w.heap.size + 1) 0 (prc u v a n cap) from World.rangeAt_setCells_same _ _ _ _ T2.there)
  have BB := Lib.hid (below_cells (show w.heap.size ≤ w.heap.size + 1 by omega) (prc u v a n cap) 0 B)
  obtain ⟨d, D1, D2, D3⟩ := prf_desc'
  clear h T1 T2 B1 B2 B hf hl
  go_enter Tryd.func39, Tryd.ntmps39
  go_wp2_with (first | (go_at_call 48; (with_reducible refine (impl_FieldOk _ _).mono ?_); rintro e w' ⟨rfl, rfl⟩) | (go_at_call 65; refine (impl_PolyOk _ _ _ _ _ H.out).mono ?_; rintro e w' ⟨rfl, rfl⟩; rw [hp]) | (refine wpList_store_mid rfl 58 (.tmp 4) (.tmp 40) rfl (w.heap.size + 1) 0 (prc u v a n cap).toArray rfl rfl NT.out D3 (prc_one _ _ _ _ _) ?_))
  refine bodyPost_ret (v := .tuple #[.agg (prc u v a n cap).toArray, .nilIface]) (results_mid2 rfl _ _ (w.heap.size + 1) (prc u v a n cap) _ _ rfl rfl R.out D1 D2 D3) rfl ?_
  exact ⟨rfl, BB.out⟩
end Go.Proofs.YtmfmhhopnmglcaaDoor
