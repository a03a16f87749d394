/-
  The first of numbers that can be put in shares can be, with one more on one side they cannot: the law FnShareForm returns true for every two codes.
  Conditions: none but the statement's own. Proved: Rows.FnShareFormSaid.
-/
import Derived.Test.YtdlfplolhnoecaaRows
import Derived.WalkKit
import Derived.ProofKit
import Derived.OpenShut
import Derived.ShutString
import Derived.ChangeOld
import Derived.Below
import Derived.Test.YtdlfplolhnoecaaFp
import Derived.Test.YtdlfplolhnoecaaBase
import Derived.Test.YtdlfplolhnoecaaField
import Derived.Test.YtdlfplolhnoecaaSl
import Derived.Test.YtdlfplolhnoecaaLw
import Derived.Test.YtdlfplolhnoecaaPm
import Derived.Test.YtdlfplolhnoecaaShok
import Derived.Test.YtdlfplolhnoecaaShno
import Derived.Test.YtdlfplolhnoecaaDraw
import Derived.Test.YtdlfplolhnoecaaDlist
import Derived.Test.YtdlfplolhnoecaaCat
import Derived.Conc.Holds
import Derived.Leaving
namespace Go.Proofs.Ytdlfplolhnoecaa.fnShareForm
open Go.ChangeShapes Go.WideShapes Go.ChangeAt Go.RowKit
open Go.ChangeMaps (open_string shut_string)
set_option linter.unusedVariables false
set_option linter.unusedSimpArgs false

theorem own : ownKnob Try.prog.godebug = none := by kernel_rfl
theorem laidOut : laidOutB Try.prog = true := by kernel_rfl

theorem not_fit {xs : List Int} (z : Int) : Fp.fit xs (xs ++ [z]) = false := by simp [Fp.fit]
theorem not_fit' {xs : List Int} (z : Int) : Fp.fit (xs ++ [z]) xs = false := by simp [Fp.fit]
set_option maxHeartbeats 1000000 in
set_option maxRecDepth 100000 in
theorem walk (a0 : Option Addr) (len0 cap0 : Nat) (z0 : List Int) (a1 : Option Addr) (len1 cap1 : Nat) (z1 : List Int) (w : World) (w0 : IsRow .u8 w a0 len0 cap0 z0) (w1 : IsRow .u8 w a1 len1 cap1 z1) :
    Calls Try.prog 5 #[.slice a0 len0 cap0, .slice a1 len1 cap1] w fun e w' => e = .returned (.bool true) ∧ Below w.heap.size w w' := by
  obtain ⟨c1, c2⟩ := w0.sizes
  obtain ⟨d1, d2⟩ := w1.sizes
  have Hb := Lib.hid (Bys.of_row w0)
  clear w0 w1
  by_cases hl : 1048576 < len0
  · go_enter Try.func5, Try.ntmps5
    go_wp2
    go_ret
    exact ⟨rfl, Below.refl _ _⟩
  by_cases hl' : 1048576 < len1
  · go_enter Try.func5, Try.ntmps5
    go_wp2
    go_ret
    exact ⟨rfl, Below.refl _ _⟩
  have B := Lib.hid (Below.refl w.heap.size w)
  go_enter Try.func5, Try.ntmps5
  go_wp2_with fail
  refine (spec_DrawShareOk a0 len0 cap0 w Hb.out c1 c2).mono ?_
  rintro e W1 ⟨a_p, n_p, c_p, zs, h_p, rfl, o_p, b_d⟩
  have Z_W1 : w.heap.size ≤ W1.heap.size := b_d.size
  have O_p := Lib.hid o_p
  have L_p := Lib.hid o_p.len
  replace B := Lib.hid (B.out.trans (b_d.mono B.out.size))
  clear b_d o_p
  clear c1 c2 d1 d2
  go_wp2_with fail
  refine (impl_ShareOk _ _ _ _ _ O_p.out.sl).mono ?_
  rintro e w' ⟨rfl, rfl⟩
  cases hp : Fp.sok zs
  · skip
    go_wp2_with fail
    refine (spec_ShareOk _ _ _ _ _ O_p.out.sl (by omega)).mono ?_
    rintro e w' ⟨rfl, rfl⟩
    go_wp2_with fail
    refine (spec_ShareOk _ _ _ _ _ O_p.out.sl (by omega)).mono ?_
    rintro e w' ⟨rfl, rfl⟩
    go_wp2
    go_ret
    exact ⟨rfl, B.out⟩
  · skip
    go_wp2_with fail
    refine (spec_ShareOk _ _ _ _ _ O_p.out.sl (by omega)).mono ?_
    rintro e w' ⟨rfl, rfl⟩
    obtain ⟨k, hk⟩ : ∃ k : Nat, (len1 : Int) % ((n_p : Int) + 1) = (k : Int) := ⟨len1 % (n_p + 1), by simp⟩
    have k1 : k ≤ n_p := by
      have := Int.emod_lt_of_pos (len1 : Int) (show (0 : Int) < (n_p : Int) + 1 by omega)
      omega
    have le := O_p.out.le
    have lm := O_p.out.lim
    have n20 : n_p ≤ 20 := by have := Fp.sok_len hp; rw [L_p.out] at this; exact this
    have S1 := Lib.hid (O_p.out.sl.alloc (.cells #[] 3))
    have E1 := Lib.hid (own_empty W1.heap.size 3 W1 (Nat.le_refl _))
    go_wp2_with (first | (at_builtin; (refine wpList_of_wp (by rfl) (wp_cat int_ty (.tmp 47) (.tmp 48) rfl W1.heap.size (xs := []) rfl rfl E1.out S1.out (by omega) (by simp) ?_)); intro a5 c5 w5 own5 bel5; simp only [Nat.zero_add, List.nil_append] at own5; have z5 : W1.heap.size ≤ w5.heap.size := by (have := bel5.size; simp at this; omega)) | (at_builtin; (refine wpList_of_wp (by rfl) (wp_push int_ty (.tmp 49) (.tmp 50) rfl W1.heap.size rfl rfl own5 (by omega) z5 ?_)); intro a6 c6 w6 own6 bel6))
    have P2 := Lib.hid (((Below.refl W1.heap.size W1).alloc (Nat.le_refl _) (.cells #[] 3)).trans (bel5.trans bel6))
    have O6 := Lib.hid (Own.of_row own6)
    clear own5 bel5 own6 bel6 S1 E1
    replace O_p := Lib.hid (O_p.out.below P2.out)
    replace B := Lib.hid (B.out.trans (P2.out.mono B.out.size))
    clear P2
    refine (impl_ShareMake_no _ _ _ _ _ _ _ _ _ O_p.out.sl O6.out.sl (not_fit 1)).mono ?_
    rintro e W2 ⟨rfl, b2⟩
    replace O_p := Lib.hid (O_p.out.below b2)
    replace B := Lib.hid (B.out.trans (b2.mono B.out.size))
    clear O6 b2
    have S1 := Lib.hid (O_p.out.sl.alloc (.cells #[] 3))
    have E1 := Lib.hid (own_empty W2.heap.size 3 W2 (Nat.le_refl _))
    go_wp2_with (first | (at_builtin; (refine wpList_of_wp (by rfl) (wp_cat int_ty (.tmp 58) (.tmp 59) rfl W2.heap.size (xs := []) rfl rfl E1.out S1.out (by omega) (by simp) ?_)); intro a5 c5 w5 own5 bel5; simp only [Nat.zero_add, List.nil_append] at own5; have z5 : W2.heap.size ≤ w5.heap.size := by (have := bel5.size; simp at this; omega)) | (at_builtin; (refine wpList_of_wp (by rfl) (wp_push int_ty (.tmp 60) (.tmp 61) rfl W2.heap.size rfl rfl own5 (by omega) z5 ?_)); intro a6 c6 w6 own6 bel6))
    have P2 := Lib.hid (((Below.refl W2.heap.size W2).alloc (Nat.le_refl _) (.cells #[] 3)).trans (bel5.trans bel6))
    have O6 := Lib.hid (Own.of_row own6)
    clear own5 bel5 own6 bel6 S1 E1
    replace O_p := Lib.hid (O_p.out.below P2.out)
    replace B := Lib.hid (B.out.trans (P2.out.mono B.out.size))
    clear P2
    refine (impl_ShareBack_no _ _ _ _ _ _ _ _ _ O_p.out.sl O6.out.sl (not_fit 0)).mono ?_
    rintro e W3 ⟨rfl, b2⟩
    replace O_p := Lib.hid (O_p.out.below b2)
    replace B := Lib.hid (B.out.trans (b2.mono B.out.size))
    clear O6 b2
    have S1 := Lib.hid (O_p.out.sl.alloc (.cells #[] 3))
    have E1 := Lib.hid (own_empty W3.heap.size 3 W3 (Nat.le_refl _))
    go_wp2_with (first | (at_builtin; (refine wpList_of_wp (by rfl) (wp_cat int_ty (.tmp 67) (.tmp 68) rfl W3.heap.size (xs := []) rfl rfl E1.out S1.out (by omega) (by simp) ?_)); intro a5 c5 w5 own5 bel5; simp only [Nat.zero_add, List.nil_append] at own5; have z5 : W3.heap.size ≤ w5.heap.size := by (have := bel5.size; simp at this; omega)) | (at_builtin; (refine wpList_of_wp (by rfl) (wp_push int_ty (.tmp 69) (.tmp 70) rfl W3.heap.size rfl rfl own5 (by omega) z5 ?_)); intro a6 c6 w6 own6 bel6))
    have P2 := Lib.hid (((Below.refl W3.heap.size W3).alloc (Nat.le_refl _) (.cells #[] 3)).trans (bel5.trans bel6))
    have O6 := Lib.hid (Own.of_row own6)
    clear own5 bel5 own6 bel6 S1 E1
    replace O_p := Lib.hid (O_p.out.below P2.out)
    replace B := Lib.hid (B.out.trans (P2.out.mono B.out.size))
    clear P2
    refine (impl_ShareDrawn_no _ _ _ _ _ _ _ _ _ O6.out.sl O_p.out.sl (not_fit' 0)).mono ?_
    rintro e W4 ⟨rfl, b2⟩
    replace O_p := Lib.hid (O_p.out.below b2)
    replace B := Lib.hid (B.out.trans (b2.mono B.out.size))
    clear O6 b2
    have e1 := Fp.sok_take hp k
    have nd : decide ((n_p : Int) ≤ 20) = true := by simp; omega
    go_wp2_with fail
    refine (impl_ShareOk _ _ _ _ _ (O_p.out.sl.cut k1)).mono ?_
    rintro e w' ⟨rfl, rfl⟩
    go_wp2
    go_ret
    exact ⟨rfl, B.out⟩

/-! ### THE ROW's STEP: WRITTEN OUT: LEAVE IT -/
set_option maxRecDepth 100000 in
theorem lifted (os : Os) (started : os.Started) (H : Type) (enc : TypeId × Value → H) :
    ReturnsInHanded {} Try.checked os 5 .any (Rows.fnShareFormSpec.pre6 enc Try.prog Try.f5 Rows.fnShareFormRow.domain false) (Rows.fnShareFormSpec.post enc Try.prog Try.f5 false true false false) := by
  refine returnsInHanded_of_change (C := Try.checked) own started (by kernel_rfl) Try.func5
    (ChangeSpec.witness6 (enc := enc) (C := Try.checked) false ⟨#[], #[.slice none 0 0, .slice none 0 0], []⟩ 8 (by kernel_rfl) (by kernel_rfl) (by kernel_rfl) (by kernel_rfl)) ?_
  intro W base args ds gs before hval0 hW hcnd _
  have hval : ∀ (j : Nat) t v, Try.f5.params[j]? = some t → args[j]? = some v → Value.okWide Try.prog W .any base t v := hval0
  have hW' := hW
  obtain ⟨p, q, hA0, hV, rfl, hfz, hnd⟩ := hW
  have hA : DataW.TrodAll enc Try.prog W 0 (fun _ => true) true Try.f5.params.toList args.toList ds p := hA0
  rw [Try.params5] at hA hval
  obtain ⟨v0, vs0, d0, ds0, p0, q0, hargs, rfl, rfl, h0, r0⟩ := trodAll_cons hA
  obtain ⟨v1, vs1, d1, ds1, p1, q1, rfl, rfl, rfl, h1, r1⟩ := trodAll_cons r0
  obtain ⟨rfl, rfl, rfl⟩ := trodAll_nil r1
  obtain rfl : args = #[v0, v1] := by cases args; simp_all
  obtain ⟨rfl, rfl⟩ := trodVars_none hV
  obtain ⟨a0, len0, cap0, rfl⟩ := okWide_slice Try.underlying26 (hval 0 26 v0 rfl rfl)
  have k0 := h0
  have lt0 : ∀ x ∈ p0, x.block < W.heap.size := by obtain ⟨m, hm⟩ := k0; exact DataW.trod_lt m _ _ _ hm
  obtain ⟨z0, w0⟩ : ∃ zs, IsRow .u8 W a0 len0 cap0 zs := by
    obtain ⟨fuel, hf⟩ := h0
    rcases open_ints Try.underlying26 Try.underlying5 (by kernel_rfl) hf with ⟨hcs, _⟩ | ⟨x, l, c, zs, hcs, _, hl, hm, hz, _, hcell, hwz⟩
    · simp [Value.cells] at hcs
      obtain ⟨rfl, rfl, rfl⟩ := hcs
      exact ⟨[], .inl ⟨rfl, rfl, rfl, rfl⟩⟩
    · simp [Value.cells] at hcs
      obtain ⟨rfl, rfl, rfl⟩ := hcs
      exact ⟨zs, .inr ⟨_, rfl, hl, hm, by simpa using hz, hcell, hwz⟩⟩
  obtain ⟨a1, len1, cap1, rfl⟩ := okWide_slice Try.underlying26 (hval 1 26 v1 rfl rfl)
  have k1 := h1
  have lt1 : ∀ x ∈ p1, x.block < W.heap.size := by obtain ⟨m, hm⟩ := k1; exact DataW.trod_lt m _ _ _ hm
  obtain ⟨z1, w1⟩ : ∃ zs, IsRow .u8 W a1 len1 cap1 zs := by
    obtain ⟨fuel, hf⟩ := h1
    rcases open_ints Try.underlying26 Try.underlying5 (by kernel_rfl) hf with ⟨hcs, _⟩ | ⟨x, l, c, zs, hcs, _, hl, hm, hz, _, hcell, hwz⟩
    · simp [Value.cells] at hcs
      obtain ⟨rfl, rfl, rfl⟩ := hcs
      exact ⟨[], .inl ⟨rfl, rfl, rfl, rfl⟩⟩
    · simp [Value.cells] at hcs
      obtain ⟨rfl, rfl, rfl⟩ := hcs
      exact ⟨zs, .inr ⟨_, rfl, hl, hm, by simpa using hz, hcell, hwz⟩⟩
  clear hA0 hval0
  refine (walk a0 len0 cap0 z0 a1 len1 cap1 z1 W w0 w1).mono fun e W' ⟨he, bel⟩ => ?_
  subst he
  exact ⟨_, rfl, _, _, _, [], _, [], hW', trodAll_mk1 (shut_bool Try.underlying4 _), (trodAll_cons_mk (Below.trod laidOut (by kernel_rfl) (of_decide_eq_true (by kernel_rfl)) k0 bel lt0) (trodAll_cons_mk (Below.trod laidOut (by kernel_rfl) (of_decide_eq_true (by kernel_rfl)) k1 bel lt1) trodAll_mk0)), rfl, bel.frame _, fun h => by cases h⟩

theorem leaving_of_alone {a : Assume} {C : Checked} {os : Os} {f : FuncId} {r : Reach} {Pre : World → Array Value → Prop} {Post : World → Array Value → Value → World → Prop} (h : ReturnsInHanded a C os f r Pre Post) : ReturnsInLeavingWide a C os f r Pre Post := fun enter => by
  obtain ⟨h1, h2, h3, h4, h5⟩ := h enter
  refine ⟨h1, h2, h3, h4, fun w tape i hf => ?_⟩
  obtain ⟨n, v, w', k1, k2, k3, k4, ⟨j, last, k5, k6, k7, k8, k9⟩, k10⟩ := h5 w tape i hf
  exact ⟨n, v, w', k1, k2, k3, k4, ⟨j, last, k5, k6, k8, onlyLeaving_of_quiet k7, k9⟩, k10⟩

theorem over : Rows.fnShareFormRow.holds Try.pinned (OpenSpec.ofChange Rows.fnShareFormSpec) :=
  OpenClaim.holds_of_wide_leaving 5 Try.f5 rfl rfl rfl rfl rfl rfl rfl ⟨rfl, rfl, rfl, rfl, rfl⟩ rfl rfl rfl rfl rfl (by kernel_rfl) Try.func5 (by kernel_rfl)
    (of_decide_eq_true (by kernel_rfl)) (by unfold Func.isWrapper; first | (rw [if_pos (by decide +kernel)]; kernel_rfl) | (rw [if_neg (by decide +kernel)]; exact ⟨rfl, rfl⟩))
    (fun os started H enc _ => leaving_of_alone (lifted os started H enc))

/-- ████ THE STATEMENT ████ -/
theorem proved : Rows.FnShareFormSaid := over
#print axioms proved
end Go.Proofs.Ytdlfplolhnoecaa.fnShareForm
