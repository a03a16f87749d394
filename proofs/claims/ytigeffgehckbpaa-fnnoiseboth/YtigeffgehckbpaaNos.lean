/-
  What the model's functions of chapter 33 return, for every argument, and what is drawn for its promises.
-/
import Derived.Test.YtigeffgehckbpaaNoi
import Derived.Test.YtigeffgehckbpaaDlist
import Derived.Test.YtigeffgehckbpaaCat
import Derived.Deep.RegionLaw
import Derived.Deep.RegionHeld3
namespace Go.Proofs.Ytigeffgehckbpaa
open Go.RowKit
set_option linter.unusedVariables false
set_option linter.unusedSimpArgs false
set_option maxRecDepth 20000
theorem step_of_wpN {P : Program} {ops : Array Oper} {o : Oper} {a : Act} {w : World} {K : Act → World → Prop} {Q : Exit → Act → World → Prop} {E : Prop} (hg : o.guard = none) (h : o.wp P a w K Q) : if Region.wanted o (yielded ops a.tmps) = true then Oper.wp P o a w K Q else E := by
  have hw : Region.wanted o (yielded ops a.tmps) = true := by simp [Region.wanted, hg]
  rw [if_pos hw]
  exact h
theorem spec_l33Of (n : Int) (w : World) : Calls Try.prog 32 #[.int .i64 n] w fun e w' => e = .returned (.int .i64 (Fp.nzE n)) ∧ w = w' := by
  by_cases h1 : n < 11
  · have e : Fp.nzE n = 0 := by unfold Fp.nzE; rw [if_pos h1]
    rw [e]; clear e
    go_enter Try.func32, Try.ntmps32
    go_wp2
    go_ret
    exact ⟨rfl, rfl⟩
  by_cases h2 : n < 18
  · have e : Fp.nzE n = 1 := by unfold Fp.nzE; rw [if_neg h1, if_pos h2]
    rw [e]; clear e
    go_enter Try.func32, Try.ntmps32
    go_wp2
    go_ret
    exact ⟨rfl, rfl⟩
  by_cases h3 : n < 25
  · have e : Fp.nzE n = -1 := by unfold Fp.nzE; rw [if_neg h1, if_neg h2, if_pos h3]
    rw [e]; clear e
    go_enter Try.func32, Try.ntmps32
    go_wp2
    go_ret
    exact ⟨rfl, rfl⟩
  by_cases h4 : n < 28
  · have e : Fp.nzE n = 2 := by unfold Fp.nzE; rw [if_neg h1, if_neg h2, if_neg h3, if_pos h4]
    rw [e]; clear e
    go_enter Try.func32, Try.ntmps32
    go_wp2
    go_ret
    exact ⟨rfl, rfl⟩
  · have e : Fp.nzE n = -2 := by unfold Fp.nzE; rw [if_neg h1, if_neg h2, if_neg h3, if_neg h4]
    rw [e]; clear e
    go_enter Try.func32, Try.ntmps32
    go_wp2
    go_ret
    exact ⟨rfl, rfl⟩
theorem spec_NoiseOf (n : Int) (w : World) : Calls Try.prog 13 #[.int .i64 n] w fun e w' => e = .returned (.int .i64 (Fp.nz n)) ∧ w = w' := by
  cases h : Fp.ok n
  · rw [Fp.nz_no h]
    go_enter Try.func13, Try.ntmps13
    go_wp2_with (go_at_call 31; (with_reducible refine (spec_FieldOk _ _).mono ?_); rintro e w' ⟨rfl, rfl⟩)
    go_ret
    exact ⟨rfl, rfl⟩
  · rw [Fp.nz_ok h]
    go_enter Try.func13, Try.ntmps13
    go_wp2_with (first | (go_at_call 31; (with_reducible refine (spec_FieldOk _ _).mono ?_); rintro e w' ⟨rfl, rfl⟩) | (go_at_call 32; (with_reducible refine (spec_l33Of _ _).mono ?_); rintro e w' ⟨rfl, rfl⟩))
    go_ret
    exact ⟨rfl, rfl⟩
theorem spec_NoiseMany (v : Int) (w : World) : Calls Try.prog 15 #[.int .i64 v] w fun e w' => e = .returned (.int .i64 (Fp.nmany v : Int)) ∧ w = w' := by
  go_enter Try.func15, Try.ntmps15
  go_wp2
  go_loop [3, 4] (fun m i => ∃ k : Nat, k ≤ 31 ∧ m = .int .i64 (Fp.nzm v k : Int) ∧ i = .int .i64 (k : Int)) (fun _ i => 31 - (intOf i).toNat)
  case atStart => exact ⟨0, by omega, rfl, rfl⟩
  case round =>
    obtain ⟨k, hk, rfl, rfl⟩ := hrel
    have ml := Fp.nzm_le v k
    by_cases hlt : k < 31
    · have ek : Fp.nz (k : Int) = Fp.nzE (k : Int) := Fp.nz_ok ((Fp.ok_iff _).2 ⟨by omega, by omega⟩)
      by_cases hz : Fp.nz (k : Int) = v
      · have hb : (Fp.nzE (k : Int) == v) = true := beqT (by rw [← ek]; exact hz)
        have E := Lib.hid (Fp.nzm_yes hz)
        clear hz ek
        go_wp2_with (go_at_call 32; (with_reducible refine (spec_l33Of _ _).mono ?_); rintro e w' ⟨rfl, rfl⟩)
        go_round
        case rel => exact ⟨k + 1, by omega, by rw [E.out]; go_num, by go_num⟩
        case measure => simp [intOf]; omega
      · have hb : (Fp.nzE (k : Int) == v) = false := beqF (by rw [← ek]; exact hz)
        have E := Lib.hid (Fp.nzm_no hz)
        clear hz ek
        go_wp2_with (go_at_call 32; (with_reducible refine (spec_l33Of _ _).mono ?_); rintro e w' ⟨rfl, rfl⟩)
        go_round
        case rel => exact ⟨k + 1, by omega, by rw [E.out], by go_num⟩
        case measure => simp [intOf]; omega
    · have e : k = 31 := by omega
      subst e
      go_wp2
      go_ret
      exact ⟨rfl, rfl⟩
theorem spec_NoiseBoth (a b i : Int) (w : World) : Calls Try.prog 17 #[.int .i64 a, .int .i64 b, .int .i64 i] w fun e w' => e = .returned (.int .i64 (Fp.nb a b i)) ∧ w = w' := by
  cases hi : Fp.iok i
  · rw [Fp.nb_na hi]
    cases ha : Fp.sok a
    · go_enter Try.func17, Try.ntmps17
      go_wp2_with (go_at_call 35; (with_reducible refine (spec_l4Seed _ _ _).mono ?_); rintro e w' ⟨rfl, rfl⟩)
      go_ret
      exact ⟨rfl, rfl⟩
    · go_enter Try.func17, Try.ntmps17
      go_wp2_with (go_at_call 35; (with_reducible refine (spec_l4Seed _ _ _).mono ?_); rintro e w' ⟨rfl, rfl⟩)
      go_ret
      exact ⟨rfl, rfl⟩
  cases ha : Fp.sok a
  · rw [Fp.nb_ns ha]
    go_enter Try.func17, Try.ntmps17
    go_wp2_with (go_at_call 35; (with_reducible refine (spec_l4Seed _ _ _).mono ?_); rintro e w' ⟨rfl, rfl⟩)
    go_ret
    exact ⟨rfl, rfl⟩
  cases hb : Fp.sok b
  · rw [Fp.nb_nt hb]
    go_enter Try.func17, Try.ntmps17
    go_wp2_with (go_at_call 35; (with_reducible refine (spec_l4Seed _ _ _).mono ?_); rintro e w' ⟨rfl, rfl⟩)
    go_ret
    exact ⟨rfl, rfl⟩
  · rw [Fp.nb_E]
    go_enter Try.func17, Try.ntmps17
    go_wp2_with (first | (go_at_call 35; (with_reducible refine (spec_l4Seed _ _ _).mono ?_); rintro e w' ⟨rfl, rfl⟩) | (go_at_call 36; (with_reducible refine (spec_RandBoth _ _ _ _).mono ?_); rintro e w' ⟨rfl, rfl⟩) | (go_at_call 32; (with_reducible refine (spec_l33Of _ _).mono ?_); rintro e w' ⟨rfl, rfl⟩))
    go_ret
    exact ⟨rfl, rfl⟩
theorem inB_c (n : Int) : inB n 0 9999 = Fp.inC n := rfl
theorem nadd_last {l : List Int} {a b : Int} {n : Nat} (h : n = l.length) : Fp.naddTo l a b n = Fp.naddTo l a b l.length := by rw [h]
theorem spec_NoiseAdd (p : Option Addr) (n cap : Nat) (zs : List Int) (a b : Int) (w : World) (h : Sl w p n zs) (hm : n ≤ 1048576) :
    Calls Try.prog 19 #[.slice p n cap, .int .i64 a, .int .i64 b] w (NewIntsB (Fp.nadd zs a b) (Fp.naB zs a b) w) := by
  have H := Lib.hid h
  have L := Lib.hid h.len
  clear h
  have i0 : Fp.iok 0 = true := rfl
  have E1 := Lib.hid (own_empty w.heap.size 3 w (Nat.le_refl _))
  have B1 := Lib.hid ((Below.refl w.heap.size w).alloc (Nat.le_refl _) (.cells #[] 3))
  by_cases h9 : 20 < n
  · have hc := Fp.cok_long (l := zs) (by rw [L.out]; exact h9)
    rw [Fp.nadd_no (Fp.naB_nc hc), Fp.naB_nc hc]
    clear hc
    go_enter Try.func19, Try.ntmps19
    go_wp2
    go_ret2
    exact ⟨_, _, _, rfl, Own.of_row E1.out, B1.out⟩
  cases ha : Fp.sok a
  · rw [Fp.nadd_no (Fp.naB_ns ha), Fp.naB_ns ha]
    go_enter Try.func19, Try.ntmps19
    go_wp2_with (go_at_call 35; (with_reducible refine (spec_l4Seed _ _ _).mono ?_); rintro e w' ⟨rfl, rfl⟩)
    go_ret2
    exact ⟨_, _, _, rfl, Own.of_row E1.out, B1.out⟩
  cases hb : Fp.sok b
  · rw [Fp.nadd_no (Fp.naB_nt hb), Fp.naB_nt hb]
    go_enter Try.func19, Try.ntmps19
    go_wp2_with (go_at_call 35; (with_reducible refine (spec_l4Seed _ _ _).mono ?_); rintro e w' ⟨rfl, rfl⟩)
    go_ret2
    exact ⟨_, _, _, rfl, Own.of_row E1.out, B1.out⟩
  have NO : Hid (∀ k, k < n → Fp.inC (zs.getD k 0) = false → Fp.nadd zs a b = [] ∧ Fp.naB zs a b = false) := fun k hk hf => by
    have hc := Fp.cok_bad (k := k) (l := zs) (by rw [L.out]; exact hk) hf
    exact ⟨Fp.nadd_no (Fp.naB_nc hc), Fp.naB_nc hc⟩
  have YES : Hid ((∀ k, k < n → Fp.inC (zs.getD k 0) = true) → Fp.nadd zs a b = Fp.naddTo zs a b n ∧ Fp.naB zs a b = true) := fun hk => by
    have hc := Fp.cok_all (l := zs) (by rw [L.out]; omega) (fun j hj => hk j (by rw [L.out] at hj; omega))
    have hy := Fp.naB_yes ha hb hc
    exact ⟨by rw [Fp.nadd_yes hy, L.out], hy⟩
  go_enter Try.func19, Try.ntmps19
  go_wp2_with (go_at_call 35; (with_reducible refine (spec_l4Seed _ _ _).mono ?_); rintro e w' ⟨rfl, rfl⟩)
  go_loopw [8, 9] (fun v i wr => ∃ (k c : Nat) (p : Option Addr), k ≤ n ∧ i = .int .i64 k ∧ v = .slice p k c ∧ Hid (∀ j, j < k → Fp.inC (zs.getD j 0) = true) ∧ Hid (wr.ownsRow w.heap.size 3 1 (.slice p k c) k ((Fp.naddTo zs a b k).map (Value.int .i64))) ∧ Hid (Below w.heap.size w wr)) (fun _ i _ => n - (intOf i).toNat)
  case atStart => exact ⟨0, 0, _, by omega, rfl, rfl, fun j hj => by omega, E1.out, B1.out⟩
  case round =>
    clear E1 B1
    obtain ⟨k, c, r, hk, rfl, rfl, T, hO, hB⟩ := hrel
    by_cases hlt : k < n
    · obtain ⟨q, off, z, rfl, hc, hz⟩ := (H.out.below hB.out).get hlt
      have i1 : (k : Int) < (n : Int) := by omega
      have ik : (0 : Int) ≤ (k : Int) := by omega
      cases hf : Fp.inC z
      · obtain ⟨N1, N2⟩ := NO.out k hlt (by rw [← hz.out]; exact hf)
        have N1 := Lib.hid N1
        have N2 := Lib.hid N2
        rw [← inB_c] at hf
        have E1 := Lib.hid (own_empty w.heap.size 3 wr hB.out.size)
        go_wp2_with (go_at_call 37; (with_reducible refine (spec_l6In _ _ _ _).mono ?_); rintro e w' ⟨rfl, rfl⟩)
        go_ret2
        refine ⟨_, _, _, by rw [N2.out]; rfl, ?_, hB.out.alloc hB.out.size _⟩
        rw [N1.out]
        exact Own.of_row E1.out
      · obtain ⟨z0, z1⟩ := (Fp.inC_iff z).1 hf
        have T2 : Hid (∀ j, j < k + 1 → Fp.inC (zs.getD j 0) = true) := fun j hj => by
          by_cases e : j = k
          · subst e; rw [← hz.out]; exact hf
          · exact T.out j (by omega)
        rw [← inB_c] at hf
        obtain ⟨nb0, nb1⟩ := Fp.nb_bd a b (k : Int)
        have hk6 : k ≤ 1048575 := by omega
        have hsz := hB.out.size
        have O0 := Lib.hid hO.out.drew
        clear T
        go_wp2_with (go_at_call 37; (with_reducible refine (spec_l6In _ _ _ _).mono ?_); rintro e w' ⟨rfl, rfl⟩)
        go_region_law (first | (refine step_of_wpN (by rfl) (wp_push int_ty (.tmp 38) (.tmp 48) rfl w.heap.size rfl rfl O0.out hk6 hsz ?_); intro g cap' w1 own1 bel1) | (go_simp; go_at_call 17; refine (spec_NoiseBoth _ _ _ _).mono ?_; rintro e w' ⟨rfl, rfl⟩))
        all_goals
          rw [show IntKind.i64.wrap (z + Fp.nb a b (k : Int)) = z + Fp.nb a b (k : Int) from IntWalk.i64_in _ (by omega)] at own1
          have O1 := Lib.hid own1
          have B1 := Lib.hid (hB.out.drew.trans bel1)
          clear own1 bel1
          have E := Lib.hid (Fp.naddTo_succ zs a b k)
          rw [← hz.out] at E
          go_wp2
          go_roundw
          case rel => exact ⟨k + 1, cap', _, by omega, by go_num, rfl, T2.out, by rw [E.out]; exact O1.out, B1.out⟩
          case measure => simp [intOf]; omega
    · have e : k = n := by omega
      subst e
      obtain ⟨Y1, Y2⟩ := YES.out T.out
      have Y1 := Lib.hid Y1
      have Y2 := Lib.hid Y2
      clear T NO YES
      go_wp2
      go_ret2
      refine ⟨_, _, _, by rw [Y2.out]; rfl, ?_, hB.out⟩
      rw [Y1.out]
      exact Own.of_row hO.out
def NofPost (w : World) (e : Ending) (w' : World) : Prop := ∃ x : Int, -1 ≤ x ∧ x ≤ 31 ∧ e = .returned (.int .i64 x) ∧ Below w.heap.size w w'
theorem spec_DrawNoiseOf (a : Option Addr) (len cap : Nat) (w : World) (hb : Bys w.heap.size w a len) (hc : len ≤ cap) (hm : cap ≤ maxLen) :
    Calls Try.prog 26 #[.slice a len cap] w (NofPost w) := by
  have Hb := Lib.hid hb
  clear hb
  go_enter Try.func26, Try.ntmps26
  go_wp2_with fail
  refine (spec_l6Open w.heap.size a len cap w (Nat.le_refl _) Hb.out hc hm).mono ?_
  rintro e w1 ⟨rfl, r1, b1, s1⟩
  have R1 := Lib.hid r1
  have B1 := Lib.hid b1
  have S1 := Lib.hid s1
  clear r1 b1 s1
  go_wp2_with fail
  refine (spec_l91Num w.heap.size w.heap.size 0 w1 R1.out (by omega)).mono ?_
  rintro e w2 ⟨x, x1, x2, rfl, r2, k2⟩
  have K2 := Lib.hid k2
  clear r2 k2
  go_wp2
  go_ret
  exact ⟨x, x1, x2, rfl, B1.out.trans (K2.out.below (by have := S1.out; omega) (Nat.le_refl _))⟩
def NmaPost (w : World) (e : Ending) (w' : World) : Prop := ∃ x : Int, -3 ≤ x ∧ x ≤ 3 ∧ e = .returned (.int .i64 x) ∧ Below w.heap.size w w'
theorem spec_DrawNoiseMany (a : Option Addr) (len cap : Nat) (w : World) (hb : Bys w.heap.size w a len) (hc : len ≤ cap) (hm : cap ≤ maxLen) :
    Calls Try.prog 25 #[.slice a len cap] w (NmaPost w) := by
  have Hb := Lib.hid hb
  clear hb
  go_enter Try.func25, Try.ntmps25
  go_wp2_with fail
  refine (spec_l6Open w.heap.size a len cap w (Nat.le_refl _) Hb.out hc hm).mono ?_
  rintro e w1 ⟨rfl, r1, b1, s1⟩
  have R1 := Lib.hid r1
  have B1 := Lib.hid b1
  have S1 := Lib.hid s1
  clear r1 b1 s1
  go_wp2_with fail
  refine (spec_pick w.heap.size w.heap.size 0 7 w1 R1.out (by omega)).mono ?_
  rintro e w2 ⟨x, ⟨x1, x2, -⟩, rfl, r2, k2, s2⟩
  have K2 := Lib.hid k2
  have x3 := x2 (by omega)
  clear r2 k2 x2 s2
  go_wp2
  go_ret
  exact ⟨x - 3, by omega, by omega, rfl, B1.out.trans (K2.out.below (by have := S1.out; omega) (Nat.le_refl _))⟩
theorem spec_DrawNoiseBoth (a : Option Addr) (len cap : Nat) (w : World) (hb : Bys w.heap.size w a len) (hc : len ≤ cap) (hm : cap ≤ maxLen) :
    Calls Try.prog 27 #[.slice a len cap] w (SSIPost w) := by
  go_enter Try.func27, Try.ntmps27
  go_wp2_with fail
  refine (spec_DrawRandBoth a len cap w hb hc hm).mono ?_
  rintro e w1 ⟨x, z, y, x1, x2, z1, z2, y1, y2, rfl, b1⟩
  go_wp2
  go_ret3
  exact ⟨x, z, y, x1, x2, z1, z2, y1, y2, rfl, b1⟩
def NadPost (w : World) (e : Ending) (w' : World) : Prop := ∃ (a : Option Addr) (n cap : Nat) (zs : List Int) (x z : Int), n ≤ 5 ∧ -1 ≤ x ∧ x ≤ 1000 ∧ -1 ≤ z ∧ z ≤ 1000 ∧ Hid (∀ k, k < n → -21 ≤ zs.getD k 0 ∧ zs.getD k 0 ≤ 19) ∧ e = .returned (.tuple #[.slice a n cap, .int .i64 x, .int .i64 z]) ∧ Own w.heap.size w'.heap.size w' a n cap zs ∧ Below w.heap.size w w'
set_option maxHeartbeats 1000000 in
theorem spec_DrawNoiseAdd (a : Option Addr) (len cap : Nat) (w : World) (hb : Bys w.heap.size w a len) (hc : len ≤ cap) (hm : cap ≤ maxLen) :
    Calls Try.prog 29 #[.slice a len cap] w (NadPost w) := by
  have Hb := Lib.hid hb
  clear hb
  go_enter Try.func29, Try.ntmps29
  go_wp2_with fail
  refine (spec_l6Open w.heap.size a len cap w (Nat.le_refl _) Hb.out hc hm).mono ?_
  rintro e w1 ⟨rfl, r1, b1, s1⟩
  have hbw : w.heap.size < w1.heap.size := by omega
  have R1 := Lib.hid (r1.keep ((Below.refl _ _).alloc (Nat.le_refl _) (.cells #[] 3)))
  have B1 := Lib.hid b1
  clear r1 b1 s1
  go_wp2_with fail
  refine (spec_pick w.heap.size w.heap.size 0 6 _ R1.out (by omega)).mono ?_
  rintro e w2 ⟨v, ⟨hv1, hv2, -⟩, rfl, r2, k2, s2⟩
  have hv2 := hv2 (by omega)
  obtain ⟨k0, rfl⟩ := Int.eq_ofNat_of_zero_le hv1
  have O2 := Lib.hid (own_kb (own_empty w1.heap.size 3 w1 (Nat.le_refl _)) k2 hbw)
  have R2 := Lib.hid r2
  have K2 := Lib.hid (((Kb.refl w.heap.size w1).alloc (.cells #[] 3)).trans k2)
  clear r2 k2 s2 hv1 R1
  go_wp2
  go_loopw [6, 7] (fun p i wr => ∃ (k m c : Nat) (a : Option Addr) (zs : List Int), k + m ≤ 5 ∧ p = .slice a m c ∧ i = .int .i64 k ∧ Hid (∀ j, -21 ≤ zs.getD j 0 ∧ zs.getD j 0 ≤ 19) ∧ Hid (wr.ownsRow w1.heap.size 3 1 (.slice a m c) m (zs.map (Value.int .i64))) ∧ Hid (Rd w.heap.size w.heap.size (1 + 2 * m) wr) ∧ Hid (Kb w.heap.size w1 wr)) (fun _ i _ => (intOf i).toNat)
  case atStart => exact ⟨k0, 0, 0, _, [], by omega, rfl, rfl, fun j => by simp, O2.out, R2.out, K2.out⟩
  case round =>
    clear O2 R2 K2
    obtain ⟨k, m, c, a, zs, hkm, rfl, rfl, Z, hO, hR, hK⟩ := hrel
    by_cases hk : 0 < k
    · go_wp2_with fail
      refine (spec_pick w.heap.size w.heap.size (1 + 2 * m) 20 _ hR.out (by omega)).mono ?_
      rintro e w3 ⟨u, ⟨hu1, hu2, -⟩, rfl, r3, k3, s3⟩
      have hu3 := hu2 (by omega)
      have O3 := Lib.hid (own_kb hO.out k3 hbw)
      have R3 := Lib.hid r3
      have K3 := Lib.hid (hK.out.trans k3)
      clear r3 k3 s3 hO hR hK hu2
      go_wp2_with fail
      refine (spec_pick w.heap.size w.heap.size (1 + 2 * m + 1) 40 _ R3.out (by omega)).mono ?_
      rintro e w4 ⟨y, ⟨hy1, hy2, -⟩, rfl, r4, k4, s4⟩
      have hy3 := hy2 (by omega)
      have O4 := Lib.hid (own_kb O3.out k4 hbw)
      have R4 := Lib.hid r4
      have K4 := Lib.hid (K3.out.trans k4)
      have hsz : w1.heap.size ≤ w4.heap.size := K4.out.size
      clear r4 k4 s4 O3 R3 K3 hy2
      have hm6 : m ≤ 1048576 := by omega
      have yq : 0 ≤ y / 39 ∧ y / 39 ≤ 1 := by omega
      obtain ⟨y0, y1⟩ := yq
      have ZB : Hid (∀ j, -21 ≤ (zs ++ [u - y / 39 * 21]).getD j 0 ∧ (zs ++ [u - y / 39 * 21]).getD j 0 ≤ 19) := fun j => by
        have hZ := Z.out j
        simp only [List.getD_eq_getElem?_getD, List.getElem?_append] at hZ ⊢
        split
        · exact hZ
        · rcases Nat.eq_zero_or_pos (j - zs.length) with e | e
          · rw [e]; simp; omega
          · rw [List.getElem?_eq_none (by simp; omega)]; simp
      clear Z
      go_wp2_with (at_builtin; (refine wpList_push int_ty rfl (.tmp 17) (.tmp 25) rfl w1.heap.size rfl rfl O4.out hm6 hsz ?_); intro g cap' w5 own5 bel5)
      have O5 := Lib.hid own5
      have R5 := Lib.hid (R4.out.keepB bel5 hbw)
      have K5 := Lib.hid (K4.out.then bel5)
      clear own5 bel5
      go_wp2
      go_roundw
      case rel => exact ⟨k - 1, m + 1, cap', _, zs ++ [u - y / 39 * 21], by omega, rfl, by go_num, ZB.out, O5.out, R5.out.mono (by omega), K5.out⟩
      case measure => simp [intOf]; omega
    · have k0 : k = 0 := by omega
      subst k0
      have e0 : ((0 : Nat) : Int) = 0 := rfl
      rw [e0]; clear e0
      go_wp2_with fail
      refine (spec_l91Seed w.heap.size w.heap.size _ _ hR.out (by omega)).mono ?_
      rintro e w3 ⟨x, x1, x2, rfl, r3, k3⟩
      have O3 := Lib.hid (own_kb hO.out k3 hbw)
      have R3 := Lib.hid r3
      have K3 := Lib.hid (hK.out.trans k3)
      clear r3 k3 hO hR hK
      go_wp2_with fail
      refine (spec_l91Seed w.heap.size w.heap.size _ _ R3.out (by omega)).mono ?_
      rintro e w4 ⟨z, z1, z2, rfl, r4, k4⟩
      have O4 := Lib.hid (own_kb O3.out k4 hbw)
      have K4 := Lib.hid (K3.out.trans k4)
      clear r4 k4 O3 R3 K3
      go_wp2
      go_ret3
      exact ⟨_, _, _, zs, x, z, by omega, x1, x2, z1, z2, fun j _ => Z.out j, rfl, (Own.of_row O4.out).more (by omega) (Nat.le_refl _), B1.out.trans (K4.out.below (by omega) (Nat.le_refl _))⟩
end Go.Proofs.Ytigeffgehckbpaa
