/-
  Chapter 12: a list is cut into numbers and a proof: the program's ProofCut, the model's.
-/
import Derived.Test.YtmfmhhopnmglcaaDoorPf
import Derived.Test.YtmfmhhopnmglcaaDoorPfs
import Derived.Test.YtmfmhhopnmglcaaDoorPft
import Derived.Test.YtmfmhhopnmglcaaDoorScl
import Derived.Deep.RegionWith
import Derived.Deep.RegionLaw
namespace Go.Proofs.YtmfmhhopnmglcaaDoor
open Go.RowKit
set_option linter.unusedVariables false
set_option linter.unusedSimpArgs false
set_option maxRecDepth 20000
namespace Fp
/-- Whether a list can be cut. -/
def cok (k : Int) (l : List Int) : Bool := tk k && decide (l.length = plen k) && sok l
theorem cok_iff {k : Int} {l : List Int} : cok k l = true ↔ tk k = true ∧ l.length = plen k ∧ sok l = true := by simp [cok, and_assoc]
def cV (k : Int) (l : List Int) : List Int := if cok k l then l.take (tlen k) else []
def cX (k : Int) (l : List Int) : Int := if cok k l then l.getD (tlen k) 0 else 0
def cY (k : Int) (l : List Int) : Int := if cok k l then l.getD (tlen k + 1) 0 else 0
def cH (k : Int) (l : List Int) : List Int := if cok k l then l.drop (tlen k + 2) else []
theorem cut_no {k : Int} {l : List Int} (h : cok k l = false) : cV k l = [] ∧ cX k l = 0 ∧ cY k l = 0 ∧ cH k l = [] := by simp [cV, cX, cY, cH, h]
theorem cut_yes {k : Int} {l : List Int} (h : cok k l = true) : cV k l = l.take (tlen k) ∧ cX k l = l.getD (tlen k) 0 ∧ cY k l = l.getD (tlen k + 1) 0 ∧ cH k l = l.drop (tlen k + 2) := by simp [cV, cX, cY, cH, h]
end Fp
theorem Sl.drew {w : World} {a : Option Addr} {n : Nat} {zs : List Int} (h : Sl w a n zs) : Sl w.drew a n zs := ⟨h.len, h.at_⟩
theorem Sl.drop {w : World} {b off n m : Nat} {zs : List Int} (h : Sl w (some ⟨b, off, none⟩) n zs) (hm : m ≤ n) : Sl w (some ⟨b, off + m, none⟩) (n - m) (zs.drop m) := by
  refine ⟨by rw [List.length_drop, h.len], fun h0 => ?_⟩
  obtain ⟨b', off', h1, h2⟩ := h.at_ (by omega)
  injection h1 with h1
  injection h1 with e1 e2
  subst e1 e2
  refine ⟨_, _, rfl, fun i hi => ?_⟩
  rw [Nat.add_assoc, h2 (m + i) (by omega)]
  simp [List.getD_eq_getElem?_getD, List.getElem?_drop]
theorem step_of_wp' {P : Program} {ops : Array Oper} {o : Oper} {a : Act} {w : World} {K : Act → World → Prop} {Q : Exit → Act → World → Prop} {E : Prop} (hg : o.guard = none) (h : o.wp P a w K Q) : if Region.wanted o (yielded ops a.tmps) = true then Oper.wp P o a w K Q else E := by
  have hw : Region.wanted o (yielded ops a.tmps) = true := by simp [Region.wanted, hg]
  rw [if_pos hw]
  exact h
/-- Ways that come to one goal: it is proved once. -/
structure Met (G : Prop) : Prop where
  out : G
theorem meet {G R : Prop} (h : Met G → R) (g : G) : R := h ⟨g⟩
/-- A struct of three cells, cell by cell. -/
theorem Tri.three {w : World} {g : Nat} {x y z : Value} {t : TypeId} (h : Tri w g [x, y, z] t) : w.cell? ⟨g, 0, none⟩ = some x ∧ w.cell? ⟨g, 1, none⟩ = some y ∧ w.cell? ⟨g, 2, none⟩ = some z ∧ w.frozen? ⟨g, 0, none⟩ = false ∧ w.frozen? ⟨g, 1, none⟩ = false ∧ w.frozen? ⟨g, 2, none⟩ = false :=
  ⟨h.at_ 0, h.at_ 1, h.at_ 2, (h.there 0 (by simp)).2, (h.there 1 (by simp)).2, (h.there 2 (by simp)).2⟩
/-- The last store of a cut. -/
theorem cut_end {g : Nat} {w w6 : World} {x y : Int} {a4 a6 : Option Addr} {n4 c4 n6 c6 : Nat} {xs zs : List Int} {lo m : Nat} {t : TypeId} {cs : List Value} {f : Bool} (T : Tri w6 g cs t) (h3 : cs.length = 3) (O4 : Own lo m w6 a4 n4 c4 xs) (O6 : Own m w6.heap.size w6 a6 n6 c6 zs) (B : Below w.heap.size w w6) (hg : w.heap.size ≤ g) (h1 : g < lo) (h2 : lo ≤ m) (h4 : m ≤ w6.heap.size) :
    (w6.setCells g 0 (prc x y a6 n6 c6)).rangeAt g 0 (prc x y a6 n6 c6) ∧ NewRpB xs x y zs f w (.returned (.tuple #[.slice a4 n4 c4, .agg (prc x y a6 n6 c6).toArray, .bool f])) (w6.setCells g 0 (prc x y a6 n6 c6)) := by
  have b2 := (below_cells (Nat.le_refl g) (prc x y a6 n6 c6) 0 (Below.refl g w6)).size
  refine ⟨World.rangeAt_setCells_same _ _ _ _ (by have := T.there; rw [h3] at this; exact this), m, _, _, _, _, _, _, rfl, by omega, by omega, (own_cells (.inl h1) _ 0 O4).more (by omega) (Nat.le_refl _), (own_cells (.inl (by omega)) _ 0 O6).more (Nat.le_refl _) b2, below_cells hg _ 0 B⟩
set_option maxHeartbeats 2000000 in
theorem impl_ProofCut_yes (k : Int) (a : Option Addr) (n cap : Nat) (zs : List Int) (w : World) (h : Sl w a n zs) (hc : n ≤ cap) (hc' : cap ≤ maxLen) (hk : Fp.cok k zs = true) :
    Calls Tryd.prog 28 #[.int .i64 k, .slice a n cap] w (NewRpB (zs.take (Fp.tlen k)) (zs.getD (Fp.tlen k) 0) (zs.getD (Fp.tlen k + 1) 0) (zs.drop (Fp.tlen k + 2)) true w) := by
  obtain ⟨hk1, hk2, hs⟩ := Fp.cok_iff.1 hk
  have L := h.len
  have e3 := Fp.plen_yes hk1
  have p0 := Fp.tlen_pos hk1
  have p4 := Fp.tlen_le k
  have en : n = 3 * Fp.tlen k + 3 := by rw [← L, hk2, e3]
  obtain ⟨b, off, rfl, _⟩ := h.at_ (by omega)
  obtain ⟨_, _, x, e, cx, hx⟩ := h.get (k := Fp.tlen k) (by omega)
  obtain ⟨rfl, rfl⟩ : b = _ ∧ off = _ := by injection e with e; injection e with e1 e2; exact ⟨e1, e2⟩
  obtain ⟨_, _, y, e', cy, hy⟩ := h.get (k := Fp.tlen k + 1) (by omega)
  obtain ⟨rfl, rfl⟩ : b = _ ∧ off = _ := by injection e' with e; injection e with e1 e2; exact ⟨e1, e2⟩
  have S1 := Lib.hid (h.cut (m := Fp.tlen k) (by omega))
  have S2 := Lib.hid (h.drop (m := Fp.tlen k + 2) (by omega))
  rw [← hx.out, ← hy.out]
  have H := Lib.hid h
  have EP : ((Fp.plen k : Nat) : Int) = (n : Int) := by rw [e3, ← en]
  have hb := cell_lt cx
  obtain ⟨T, hT⟩ : ∃ T, Fp.tlen k = T := ⟨_, rfl⟩
  rw [hT] at S1 S2 p0 p4 en cx cy
  have HS := Lib.hid hs
  have hm : n ≤ 1048576 := by omega
  have t1 : T + 2 ≤ n := by omega
  have EN := Lib.hid en
  clear en
  clear hx hy e e' hk hk1 hk2 L e3 h hs
  obtain ⟨w1, hw1⟩ : ∃ w1, w.alloc (.cells #[.int .i64 0, .int .i64 0, .slice none 0 0] 28) = w1 := ⟨_, rfl⟩
  have B1 := Lib.hid (show Below w.heap.size w w1 by rw [← hw1]; exact (Below.refl _ _).alloc (Nat.le_refl _) _)
  have Z1 : w1.heap.size = w.heap.size + 1 := by rw [← hw1]; exact size_alloc1 _ _
  have T1 := Lib.hid (show Tri w1 w.heap.size [.int .i64 0, .int .i64 0, .slice none 0 0] 28 by rw [← hw1]; exact Tri.new _ _ _)
  obtain ⟨d, D1, D2, D3⟩ := prf_desc
  go_enter Tryd.func28, Tryd.ntmps28
  go_wp2_with fail
  clear hw1
  refine (impl_TypeLen _ _).mono ?_
  rintro e w2 ⟨rfl, b2⟩
  rw [hT]
  have Z2 := b2.size
  have B2 := Lib.hid (B1.out.trans (b2.mono (by omega)))
  have T2 := Lib.hid (T1.out.below b2 (by omega))
  clear b2 T1 B1
  go_wp2_with fail
  refine (impl_ProofLen _ _).mono ?_
  rintro e w3 ⟨rfl, b3⟩
  rw [EP]
  have Z3 := b3.size
  have B3 := Lib.hid (B2.out.trans (b3.mono (by omega)))
  have T3 := Lib.hid (T2.out.below b3 (by omega))
  have S3 := Lib.hid (H.out.below B3.out)
  clear b3 T2 B2
  go_wp2_with (go_at_call 32; refine (impl_ShareOk _ _ _ _ _ S3.out).mono ?_; rintro e w' ⟨rfl, rfl⟩; rw [HS.out])
  have S4 := Lib.hid ((S1.out.below B3.out).drew)
  have hT6 : T ≤ 1048576 := by omega
  apply meet
  · intro hg0
    go_region_with (go_at_call 52; refine (slices_Clone _ _ _ _ _ S4.out hT6).mono ?_; rintro e w4 ⟨a4, n4, c4, rfl, o4, b4⟩)
    all_goals
      go_wp2
      rename_i K hK
      revert w4 a4 n4 c4 K
      exact hg0.out
  intro w4 a4 n4 c4 o4 b4 K hK
  have B4 := Lib.hid (B3.out.drew.trans (b4.mono (show w.heap.size ≤ w3.drew.heap.size by show _ ≤ w3.heap.size; omega)))
  have Z4 : w3.heap.size ≤ w4.heap.size := b4.size
  have T4 := Lib.hid ((show Tri w3.drew w.heap.size _ _ from T3.out).below b4 (show w.heap.size < w3.drew.heap.size by show _ < w3.heap.size; omega))
  have O4 := Lib.hid o4
  have C1 : w4.cell? ⟨b, off + T, none⟩ = some (.int .i64 x) := (B4.out.cell (p := ⟨b, off + T, none⟩) hb).trans cx
  have C2 : w4.cell? ⟨b, off + T + 1, none⟩ = some (.int .i64 y) := (B4.out.cell (p := ⟨b, off + T + 1, none⟩) hb).trans (by rw [Nat.add_assoc]; exact cy)
  have S5 := Lib.hid ((S2.out.below B4.out).drew)
  clear o4 b4 S4
  obtain ⟨m, hmm⟩ : ∃ m, n - T = m := ⟨_, rfl⟩
  obtain ⟨q, hq⟩ : ∃ q, cap - T = q := ⟨_, rfl⟩
  rw [hmm, hq]
  have m0 : ((0 : Int)) < (m : Int) := by omega
  have m1 : ((1 : Int)) < (m : Int) := by omega
  have m2 : 2 ≤ m := by omega
  have m3 : m ≤ q := by omega
  have m4 : m ≤ 1048576 := by omega
  have m7 : (2 : Int) ≤ (m : Int) := by omega
  have m8 : ¬ q = 2 := by have := EN.out; omega
  have m5 : 0 < m := by omega
  have m6 : 1 < m := by omega
  rw [show n - (T + 2) = m - 2 by omega, show off + (T + 2) = off + T + 2 by omega] at S5
  clear hmm hq
  go_region_with (go_at_call 52; refine (slices_Clone _ _ _ _ _ S5.out (by omega)).mono ?_; rintro e w6 ⟨a6, n6, c6, rfl, o6, b6⟩; have C1' : w6.cell? ⟨b, off + T, none⟩ = some (.int .i64 x) := (b6.cell (p := ⟨b, off + T, none⟩) (show b < w4.heap.size by omega)).trans C1; have C2' : w6.cell? ⟨b, off + T + 1, none⟩ = some (.int .i64 y) := (b6.cell (p := ⟨b, off + T + 1, none⟩) (show b < w4.heap.size by omega)).trans C2; have T6 := Lib.hid ((show Tri w4.drew w.heap.size _ _ from T4.out).below b6 (show w.heap.size < w4.heap.size by omega)); obtain ⟨Q0, Q1, Q2, F0, F1, F2⟩ := T6.out.three)
  all_goals
    have E := Lib.hid (cut_end (x := x) (y := y) (f := true) T6.out rfl ((O4.out.drew).below b6) o6 (B4.out.drew.trans (b6.mono (show w.heap.size ≤ w4.heap.size by omega))) (Nat.le_refl _) (show w.heap.size < w3.heap.size by omega) Z4 b6.size)
    clear o6 b6 C1' C2' Q0 Q1 Q2 F0 F1 F2
    go_wp2
    refine bodyPost_ret (v := .tuple #[.slice a4 n4 c4, .agg (prc x y a6 n6 c6).toArray, .bool true]) (results_mid3 rfl _ _ w.heap.size (prc x y a6 n6 c6) _ _ _ rfl rfl rfl E.out.1 D1 D2 D3) rfl ?_
    rw [hT]
    exact E.out.2
end Go.Proofs.YtmfmhhopnmglcaaDoor
