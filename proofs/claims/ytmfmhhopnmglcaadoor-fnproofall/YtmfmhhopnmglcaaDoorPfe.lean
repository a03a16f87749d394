/-
  The draws of chapter 12 over l91Proof: DrawProofOk, DrawProofAll, l91All, DrawProofCut.
-/
import Derived.Test.YtmfmhhopnmglcaaDoorPfr
import Derived.Test.YtmfmhhopnmglcaaDoorPfu
namespace Go.Proofs.YtmfmhhopnmglcaaDoor
open Go.RowKit
set_option linter.unusedVariables false
set_option linter.unusedSimpArgs false
set_option maxRecDepth 20000
def DrawnPf (w : World) (e : Ending) (w' : World) : Prop := ∃ (k : Int) (a : Option Addr) (n c : Nat) (zs : List Int) (u y : Int) (a' : Option Addr) (n' c' : Nat) (hs : List Int), 0 ≤ k ∧ k ≤ 4 ∧ n ≤ 5 ∧ n' ≤ 9 ∧ 0 ≤ u ∧ u ≤ 31 ∧ 0 ≤ y ∧ y ≤ 31 ∧ e = .returned (.tuple #[.int .i64 k, .slice a n c, .agg #[.int .i64 u, .int .i64 y, .slice a' n' c']]) ∧ Own w.heap.size w'.heap.size w' a n c zs ∧ Own w.heap.size w'.heap.size w' a' n' c' hs ∧ Below w.heap.size w w'
theorem there_below {g n : Nat} {w w' : World} (h : w.there g 0 n) (hn : 0 < n) (k : Below w.heap.size w w') : w'.there g 0 n := by
  have hl : g < w.heap.size := by
    rcases Nat.lt_or_ge g w.heap.size with h' | h'
    · exact h'
    · have := (h 0 hn).1
      unfold World.cell? at this
      simp [Array.getElem?_eq_none h'] at this
  intro j hj
  rw [k.cell (p := ⟨g, 0 + j, none⟩) hl, k.frozen (p := ⟨g, 0 + j, none⟩) hl]
  exact h j hj
theorem pf_end {w W : World} {k u y : Int} {a a' : Option Addr} {n c n' c' lo hi hi' : Nat} {zs hs : List Int} (th : W.there w.heap.size 0 3) (hlo : w.heap.size < lo) (Ov : Own lo hi W a n c zs) (Oh : Own lo hi' W a' n' c' hs) (K : Below w.heap.size w W)
    (k1 : 0 ≤ k) (k2 : k ≤ 4) (l : n ≤ 5) (l' : n' ≤ 9) (u1 : 0 ≤ u) (u2 : u ≤ 31) (y1 : 0 ≤ y) (y2 : y ≤ 31) :
    (W.setCells w.heap.size 0 (prc u y a' n' c')).rangeAt w.heap.size 0 (prc u y a' n' c') ∧ DrawnPf w (.returned (.tuple #[.int .i64 k, .slice a n c, .agg (prc u y a' n' c').toArray])) (W.setCells w.heap.size 0 (prc u y a' n' c')) := by
  have bb := below_cells (Nat.le_refl w.heap.size) (prc u y a' n' c') 0 K
  refine ⟨World.rangeAt_setCells_same _ _ _ _ th, k, a, n, c, zs, u, y, a', n', c', hs, k1, k2, l, l', u1, u2, y1, y2, rfl, ?_, ?_, bb⟩
  · exact ((own_cells (.inl hlo) _ 0 Ov).lt).more (by omega) (Nat.le_refl _)
  · exact ((own_cells (.inl hlo) _ 0 Oh).lt).more (by omega) (Nat.le_refl _)
theorem spec_DrawProofOk (a : Option Addr) (len cap : Nat) (w : World) (hb : Bys w.heap.size w a len) (hc : len ≤ cap) (hm : cap ≤ maxLen) :
    Calls Tryd.prog 21 #[.slice a len cap] w (DrawnPf w) := by
  obtain ⟨w0, hw0, Z0, B0, T0⟩ := tri_new w 28
  obtain ⟨d, D1, D2, D3⟩ := prf_desc
  have Hb := Lib.hid (hb.below B0)
  have BB := Lib.hid B0
  have TT := Lib.hid (show w0.there w.heap.size 0 3 from T0.there)
  clear hb B0 T0
  go_enter Tryd.func21, Tryd.ntmps21
  go_wp2_with fail
  clear hw0
  refine (spec_l6Open w.heap.size a len cap w0 (by omega) Hb.out hc hm).mono ?_
  rintro e w1 ⟨rfl, r1, b1, s1⟩
  have R1 := Lib.hid (show Rd w.heap.size (w.heap.size + 1) 0 w1 by rw [← Z0]; exact r1)
  have B1 := Lib.hid (BB.out.trans (b1.mono BB.out.size))
  have T1 := Lib.hid (there_below TT.out (by decide) b1)
  have S1 := Lib.hid s1
  clear r1 b1 s1
  go_wp2_with fail
  refine (spec_l91Proof w.heap.size (w.heap.size + 1) 0 w1 R1.out (by omega)).mono ?_
  rintro e w2 ⟨k, a2, n2, c2, zs, u, y, a3, n3, c3, hs, k1, k2, l2, l3, u1, u2, y1, y2, rfl, o2, o3, r2, kb2⟩
  have z1 : w.heap.size < w1.heap.size := by have := S1.out; omega
  have T2 := Lib.hid (there_kb T1.out (by decide) kb2 (by omega))
  have NT2 := Lib.hid (show w2.there w.heap.size 0 (prc u y a3 n3 c3).toArray.size from T2.out)
  have B2 := Lib.hid (B1.out.trans (kb2.below (by omega) (by omega)))
  have E := Lib.hid (pf_end (k := k) (u := u) (y := y) T2.out z1 o2 o3 B2.out k1 k2 l2 l3 u1 u2 y1 y2)
  clear o2 o3 r2 kb2
  go_wp2_with (refine wpList_store_mid rfl 28 (.tmp 4) (.tmp 10) rfl w.heap.size 0 (prc u y a3 n3 c3).toArray rfl rfl NT2.out D3 (prc_one _ _ _ _ _) ?_)
  refine bodyPost_ret (v := .tuple #[.int .i64 k, .slice a2 n2 c2, .agg (prc u y a3 n3 c3).toArray]) (results_mid3' rfl _ _ w.heap.size (prc u y a3 n3 c3) _ _ _ rfl rfl rfl E.out.1 D1 D2 D3) rfl ?_
  exact E.out.2
theorem spec_DrawProofAll (a : Option Addr) (len cap : Nat) (w : World) (hb : Bys w.heap.size w a len) (hc : len ≤ cap) (hm : cap ≤ maxLen) :
    Calls Tryd.prog 26 #[.slice a len cap] w (DrawnPf w) := by
  obtain ⟨w0, hw0, Z0, B0, T0⟩ := tri_new w 28
  obtain ⟨d, D1, D2, D3⟩ := prf_desc
  have Hb := Lib.hid (hb.below B0)
  have BB := Lib.hid B0
  have TT := Lib.hid (show w0.there w.heap.size 0 3 from T0.there)
  clear hb B0 T0
  go_enter Tryd.func26, Tryd.ntmps26
  go_wp2_with fail
  clear hw0
  refine (spec_l6Open w.heap.size a len cap w0 (by omega) Hb.out hc hm).mono ?_
  rintro e w1 ⟨rfl, r1, b1, s1⟩
  have R1 := Lib.hid (show Rd w.heap.size (w.heap.size + 1) 0 w1 by rw [← Z0]; exact r1)
  have B1 := Lib.hid (BB.out.trans (b1.mono BB.out.size))
  have T1 := Lib.hid (there_below TT.out (by decide) b1)
  have S1 := Lib.hid s1
  clear r1 b1 s1
  go_wp2_with fail
  refine (spec_l91Proof w.heap.size (w.heap.size + 1) 0 w1 R1.out (by omega)).mono ?_
  rintro e w2 ⟨k, a2, n2, c2, zs, u, y, a3, n3, c3, hs, k1, k2, l2, l3, u1, u2, y1, y2, rfl, o2, o3, r2, kb2⟩
  have z1 : w.heap.size < w1.heap.size := by have := S1.out; omega
  have T2 := Lib.hid (there_kb T1.out (by decide) kb2 (by omega))
  have NT2 := Lib.hid (show w2.there w.heap.size 0 (prc u y a3 n3 c3).toArray.size from T2.out)
  have B2 := Lib.hid (B1.out.trans (kb2.below (by omega) (by omega)))
  have E := Lib.hid (pf_end (k := k) (u := u) (y := y) T2.out z1 o2 o3 B2.out k1 k2 l2 l3 u1 u2 y1 y2)
  clear o2 o3 r2 kb2
  go_wp2_with (refine wpList_store_mid rfl 28 (.tmp 4) (.tmp 10) rfl w.heap.size 0 (prc u y a3 n3 c3).toArray rfl rfl NT2.out D3 (prc_one _ _ _ _ _) ?_)
  refine bodyPost_ret (v := .tuple #[.int .i64 k, .slice a2 n2 c2, .agg (prc u y a3 n3 c3).toArray]) (results_mid3' rfl _ _ w.heap.size (prc u y a3 n3 c3) _ _ _ rfl rfl rfl E.out.1 D1 D2 D3) rfl ?_
  exact E.out.2
def AllPost (B b q : Nat) (w : World) (e : Ending) (w' : World) : Prop := ∃ (k : Int) (a : Option Addr) (n c : Nat) (zs : List Int), 0 ≤ k ∧ k ≤ 4 ∧ n ≤ 20 ∧ e = .returned (.tuple #[.int .i64 k, .slice a n c]) ∧ Own w.heap.size w'.heap.size w' a n c zs ∧ Rd B b (q + 200) w' ∧ Kb b w w'
set_option maxHeartbeats 1000000 in
theorem spec_l91All (B b q : Nat) (w : World) (h : Rd B b q w) (hq : q ≤ 100000) :
    Calls Tryd.prog 53 #[.pointer (some ⟨b, 0, none⟩)] w (AllPost B b q w) := by
  have hbw := h.inb
  have H := Lib.hid h
  obtain ⟨d, D1, D2, D3⟩ := prf_desc
  clear h
  go_enter Tryd.func53, Tryd.ntmps53
  go_wp2_with fail
  refine (spec_l91Proof B b q w H.out hq).mono ?_
  rintro e w1 ⟨k, a, n, c, zs, u, y, a3, n3, c3, hs, k1, k2, l2, l3, u1, u2, y1, y2, rfl, o2, o3, r1, kb1⟩
  obtain ⟨A, V, hA, nt, hV, bh, ch, zh⟩ := prf_put w1 u y a3 n3 c3 28
  have NT := Lib.hid nt
  have O2 := Lib.hid (o2.below bh)
  have O3 := Lib.hid (o3.below bh)
  have R1 := Lib.hid (r1.keep bh)
  have K1 := Lib.hid (kb1.trans (Kb.of_below bh))
  have Z1 := Lib.hid kb1.size
  have ZV := Lib.hid zh
  obtain ⟨C0, C1, C2⟩ := ch
  clear o2 o3 r1 kb1 bh nt zh
  go_wp2_with (first | (refine wpList_store_mid rfl 28 (.tmp 6) (.tmp 14) rfl w1.heap.size 0 (prc u y a3 n3 c3).toArray rfl rfl NT.out D3 (prc_one _ _ _ _ _) ?_; rw [show (prc u y a3 n3 c3).toArray.toList = (prc u y a3 n3 c3) from rfl, hV]) | (go_at_call 16; fail))
  clear hA hV NT
  have C := spec_ProofAll k a n c zs u y a3 n3 c3 hs V O2.out.sl O3.out.sl (by omega) (by omega)
  cases hp : Fp.pall k zs u y hs
  · rw [hp] at C
    refine C.mono ?_
    rintro e w2 ⟨a4, n4, c4, rfl, o4, b4⟩
    have R2 := Lib.hid (R1.out.keep b4)
    have K2 := Lib.hid (K1.out.trans (Kb.of_below b4))
    have Z2 := Lib.hid b4.size
    clear o4 b4 C C0 C1 C2
    go_wp2_with fail
    refine (spec_l91List B b (q + 100) 15 w2 R2.out (by omega) (by omega)).mono ?_
    rintro e w3 ⟨a5, n5, c5, xs, l5, rfl, o5, r5, k5⟩
    have O5 := Lib.hid (o5.more (lo' := w.heap.size) (by have := Z1.out; have := Z2.out; have := ZV.out; omega) (Nat.le_refl _))
    have R5 := Lib.hid (r5.mono (q' := q + 200) (by omega))
    have K5 := Lib.hid (K2.out.trans k5)
    clear o5 r5 k5
    go_wp2
    go_ret2
    exact ⟨_, _, _, _, _, k1, k2, by omega, rfl, O5.out, R5.out, K5.out⟩
  · have hpl : (Fp.palL k zs u y hs).length ≤ 20 := by
      rw [Fp.palL_yes hp]
      have := O2.out.len
      have := O3.out.len
      simp; omega
    rw [hp] at C
    refine C.mono ?_
    rintro e w2 ⟨a4, n4, c4, rfl, o4, b4⟩
    have n4l : n4 ≤ 20 := by rw [← o4.len]; exact hpl
    have R2 := Lib.hid (R1.out.keep b4)
    have K2 := Lib.hid (K1.out.trans (Kb.of_below b4))
    have Z2 := Lib.hid b4.size
    have O4 := Lib.hid (o4.more (lo' := w.heap.size) (by have := Z1.out; have := ZV.out; omega) (Nat.le_refl _))
    clear o4 b4 C C0 C1 C2 hpl
    go_wp2_with fail
    refine (spec_pick B b (q + 100) 30 w2 R2.out (by omega)).mono ?_
    rintro e w3 ⟨s, ⟨s1, s2, -⟩, rfl, r3, k3, sz3⟩
    have O6 := Lib.hid (O4.out.kb k3 (by omega))
    have R3 := Lib.hid r3
    have K3 := Lib.hid (K2.out.trans k3)
    have Z3 := Lib.hid k3.size
    clear r3 k3
    by_cases hs0 : s = 0
    · subst hs0
      go_wp2_with fail
      refine (spec_l91List B b (q + 100 + 1) 15 w3 R3.out (by omega) (by omega)).mono ?_
      rintro e w4 ⟨a5, n5, c5, xs, l5, rfl, o5, r5, k5⟩
      have O5 := Lib.hid (o5.more (lo' := w.heap.size) (by have := Z1.out; have := Z2.out; have := Z3.out; have := ZV.out; omega) (Nat.le_refl _))
      have R5 := Lib.hid (r5.mono (q' := q + 200) (by omega))
      have K5 := Lib.hid (K3.out.trans k5)
      clear o5 r5 k5
      go_wp2
      go_ret2
      exact ⟨_, _, _, _, _, k1, k2, by omega, rfl, O5.out, R5.out, K5.out⟩
    · have sf : (s == 0) = false := beqF hs0
      have R5 := Lib.hid (R3.out.mono (q' := q + 200) (by omega))
      have O7 := Lib.hid (O6.out.more (lo' := w.heap.size) (hi' := w3.heap.size) (Nat.le_refl _) (by have := Z3.out; omega))
      go_wp2
      go_ret2
      exact ⟨_, _, _, _, _, k1, k2, n4l, rfl, O7.out, R5.out, K3.out⟩
def DrawnAll (w : World) (e : Ending) (w' : World) : Prop := ∃ (k : Int) (a : Option Addr) (n cap : Nat) (zs : List Int), 0 ≤ k ∧ k ≤ 4 ∧ n ≤ 20 ∧ e = .returned (.tuple #[.int .i64 k, .slice a n cap]) ∧ Own w.heap.size w'.heap.size w' a n cap zs ∧ Below w.heap.size w w'
theorem spec_DrawProofCut (a : Option Addr) (len cap : Nat) (w : World) (hb : Bys w.heap.size w a len) (hc : len ≤ cap) (hm : cap ≤ maxLen) :
    Calls Tryd.prog 30 #[.slice a len cap] w (DrawnAll w) := by
  have Hb := Lib.hid hb
  clear hb
  go_enter Tryd.func30, Tryd.ntmps30
  go_wp2_with fail
  refine (spec_l6Open w.heap.size a len cap w (Nat.le_refl _) Hb.out hc hm).mono ?_
  rintro e w1 ⟨rfl, r1, b1, s1⟩
  have R1 := Lib.hid r1
  have B1 := Lib.hid b1
  have S1 := Lib.hid s1
  clear r1 b1 s1
  go_wp2_with fail
  refine (spec_l91All w.heap.size w.heap.size 0 w1 R1.out (by omega)).mono ?_
  rintro e w2 ⟨k, a2, n2, c2, zs, k1, k2, l2, rfl, o2, r2, kb2⟩
  have O2 := Lib.hid (o2.more (show w.heap.size ≤ w1.heap.size by have := S1.out; omega) (Nat.le_refl _))
  have B2 := Lib.hid (B1.out.trans (kb2.below (by have := S1.out; omega) (Nat.le_refl _)))
  clear r2 kb2 o2
  go_wp2
  go_ret2
  exact ⟨_, _, _, _, _, k1, k2, l2, rfl, O2.out, B2.out⟩
end Go.Proofs.YtmfmhhopnmglcaaDoor
