/-
  Chapter 12: what the model's functions return.
-/
import Derived.Test.YtmfmhhopnmglcaaDoorPfp
import Derived.Test.YtmfmhhopnmglcaaDoorTys
import Derived.Test.YtmfmhhopnmglcaaDoorPmul
import Derived.Test.YtmfmhhopnmglcaaDoorPths
import Derived.Test.YtmfmhhopnmglcaaDoorCat
namespace Go.Proofs.YtmfmhhopnmglcaaDoor
open Go.RowKit
set_option linter.unusedVariables false
set_option linter.unusedSimpArgs false
set_option maxRecDepth 20000
theorem spec_ProofLen (k : Int) (w : World) :
    Calls Tryd.prog 56 #[.int .i64 k] w fun e w' => e = .returned (.int .i64 (Fp.plen k : Int)) ∧ w = w' := by
  cases hk : Fp.tk k
  · rw [Fp.plen_no hk]
    go_enter Tryd.func56, Tryd.ntmps56
    go_wp2_with (go_at_call 54; refine (spec_l11Kind _ _).mono ?_; rintro e w' ⟨rfl, rfl⟩; rw [hk])
    go_ret
    exact ⟨rfl, rfl⟩
  · have T := Fp.tlen_le k
    have E := Fp.plen_yes hk
    go_enter Tryd.func56, Tryd.ntmps56
    go_wp2_with (first | (go_at_call 54; refine (spec_l11Kind _ _).mono ?_; rintro e w' ⟨rfl, rfl⟩; rw [hk]) | (go_at_call 60; refine (spec_TypeLen _ _).mono ?_; rintro e w' ⟨rfl, rfl⟩))
    go_ret
    exact ⟨by rw [E]; go_num, rfl⟩
theorem spec_l12Second (a : Option Addr) (n cap : Nat) (zs : List Int) (u : Int) (w : World) (h : Sl w a n zs) (hz : Fp.sok zs = true) (hn : n ≤ 8) :
    Calls Tryd.prog 64 #[.slice a n cap, .int .i64 u] w (NewInts (u :: Fp.less 1 zs) w) := by
  have H := Lib.hid h
  have L := Lib.hid h.len
  have Z := Lib.hid (Fp.sok_get hz)
  clear h hz
  go_enter Tryd.func64, Tryd.ntmps64
  go_wp2
  go_loopw [5, 6] (fun v i wr => ∃ (k c' : Nat) (p : Option Addr), k ≤ n ∧ i = .int .i64 k ∧ v = .slice p (k + 1) c' ∧ Hid (wr.ownsRow w.heap.size 3 1 (.slice p (k + 1) c') (k + 1) ((u :: Fp.less 1 (zs.take k)).map (Value.int .i64))) ∧ Hid (Below w.heap.size w wr)) (fun _ i _ => n - (intOf i).toNat)
  case atStart => exact ⟨0, 1, _, by omega, rfl, rfl, own_lit1 _ _ _ _ (Nat.le_refl _), (Below.refl _ _).alloc (Nat.le_refl _) _⟩
  case round =>
    obtain ⟨k, c', p, hk, rfl, rfl, hO, hB⟩ := hrel
    by_cases hlt : k < n
    · obtain ⟨b, off, z, rfl, hc, hz⟩ := (H.out.below hB.out).get hlt
      have hzo : Fp.ok z = true := by rw [hz.out]; exact Z.out k
      have E := Lib.hid (Fp.less_succ 1 (v := zs) (k := k) (by rw [L.out]; exact hlt))
      have hsz := hB.out.size
      have hk6 : k + 1 ≤ 1048576 := by omega
      go_wp2_with (first | (go_at_call 80; (with_reducible refine (spec_FieldDif _ _ _).mono ?_); rintro e w' ⟨rfl, rfl⟩; rw [Fp.dif_eq hzo rfl]) | (at_builtin; (refine wpList_push int_ty rfl (.tmp 15) (.tmp 21) rfl w.heap.size rfl rfl hO.out hk6 hsz ?_); intro g cap' w1 own1 bel1))
      have O1 := Lib.hid own1
      have B1 := Lib.hid (hB.out.trans bel1)
      clear own1 bel1
      go_wp2
      go_roundw
      case rel => exact ⟨k + 1, cap', _, by omega, by go_num, rfl, by rw [E.out, ← hz.out]; exact O1.out, B1.out⟩
      case measure => simp [intOf]; omega
    · have e : k = n := by omega
      subst e
      have T : zs.take k = zs := List.take_of_length_le (by rw [L.out]; exact Nat.le_refl _)
      rw [T] at hO
      go_wp2
      go_ret
      exact ⟨_, _, _, rfl, Own.of_row hO.out, hB.out⟩
theorem spec_l12First (a : Option Addr) (n cap : Nat) (zs : List Int) (u : Int) (w : World) (h : Sl w a n zs) (hn : n ≤ 8) :
    Calls Tryd.prog 63 #[.slice a n cap, .int .i64 u] w (NewInts (u :: zs) w) := by
  have H := Lib.hid h
  clear h
  go_enter Tryd.func63, Tryd.ntmps63
  have E := Lib.hid (own_lit1 w.heap.size 3 w u (Nat.le_refl _))
  have S := Lib.hid (H.out.below ((Below.refl _ _).alloc (Nat.le_refl _) (.cells #[.int .i64 u] 3)))
  go_wp2_with (at_builtin; (refine wpList_of_wp (by rfl) (wp_cat int_ty (.tmp 6) (.tmp 7) rfl w.heap.size (xs := [u]) rfl rfl E.out S.out (by omega) (by simp) ?_)); intro a5 c5 w5 own5 bel5)
  go_ret
  exact ⟨_, _, _, rfl, Own.of_row own5, ((Below.refl _ _).alloc (Nat.le_refl _) _).trans bel5⟩
end Go.Proofs.YtmfmhhopnmglcaaDoor
