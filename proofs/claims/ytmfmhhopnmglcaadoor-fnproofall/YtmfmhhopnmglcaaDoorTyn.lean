/-
  Chapter 11: what TypeMake, TypeVal, TypeOk and TypeCheck return.
-/
import Derived.Test.YtmfmhhopnmglcaaDoorTym
import Derived.OwnWalk
namespace Go.Proofs.YtmfmhhopnmglcaaDoor
open Go.RowKit
set_option linter.unusedVariables false
set_option linter.unusedSimpArgs false
set_option maxRecDepth 20000
theorem own_nil_b (w w' : World) (h : Below w.heap.size w w') : NewIntsB [] false w (.returned (.tuple #[.slice none 0 0, .bool false])) w' := ⟨none, 0, 0, rfl, Own.nil _ _ _ _ _ (by unfold maxLen; omega), h⟩
theorem enc_done {k : Int} {x n : Nat} (hn : n = Fp.tlen k) : fill (List.replicate n 0) (Fp.dig k x) n = Fp.tenc k x := by
  subst hn
  have := fill_all (zs := List.replicate (Fp.tlen k) (0 : Int)) (ys := Fp.tenc k x) (f := Fp.dig k x) (by simp [Fp.tenc_len]) (fun i hi => by rw [Fp.tenc_get (by simpa using hi)])
  simpa using this
theorem find_yes {k : Int} {x : Nat} {zs : List Int} (hk : Fp.tk k = true) (hx : x ≤ Fp.tmost k) (h : eqB zs (Fp.tenc k x) = true) : Fp.tval k zs = (x : Int) ∧ Fp.tok k zs = true := by
  have : zs = Fp.tenc k x := by simpa [eqB] using h
  subst this
  exact ⟨Fp.tval_enc hk hx, Fp.tok_enc hk hx⟩
theorem find_no {k : Int} {zs : List Int} (hk : Fp.tk k = true) (h : ∀ x, x < Fp.tmost k + 1 → eqB zs (Fp.tenc k x) = false) : Fp.tval k zs = 0 ∧ Fp.tok k zs = false := by
  have := Fp.tfind_none (v := zs) hk (fun x hx e => by have := h x hx; rw [eqB_true e.symm] at this; cases this)
  exact ⟨by rw [Fp.tval, this]; rfl, by rw [Fp.tok, this]; rfl⟩
def noneTo (k : Int) (zs : List Int) (j : Nat) : Prop := ∀ x, x < j → eqB zs (Fp.tenc k x) = false
theorem noneTo_zero (k : Int) (zs : List Int) : noneTo k zs 0 := fun x h => by omega
theorem noneTo_succ {k : Int} {zs : List Int} {j : Nat} (h : noneTo k zs j) (hj : eqB zs (Fp.tenc k j) = false) : noneTo k zs (j + 1) := fun x hx => by
  by_cases e : x = j
  · subst e; exact hj
  · exact h x (by omega)
theorem impl_TypeVal (k : Int) (a : Option Addr) (n cap : Nat) (zs : List Int) (w : World) (h : Sl w a n zs) :
    Calls Tryd.prog 49 #[.int .i64 k, .slice a n cap] w (Bel (.tuple #[.int .i64 (Fp.tval k zs), .bool (Fp.tok k zs)]) w) := by
  have H := Lib.hid h
  clear h
  cases hk : Fp.tk k
  · rw [Fp.tval_nk hk, Fp.tok_nk hk]
    go_enter Tryd.func49, Tryd.ntmps49
    go_wp2_with (go_at_call 74; refine (impl_mo0 _ _ hk).mono ?_; rintro e w' ⟨rfl, rfl⟩)
    go_ret2
    exact ⟨rfl, Below.refl _ _⟩
  rcases Fp.tk_cases hk with rfl | rfl | rfl
  · go_enter Tryd.func49, Tryd.ntmps49
    go_wp2_with (first | (go_at_call 74; refine (impl_mo1 _).mono ?_; rintro e w' ⟨rfl, rfl⟩) | (go_at_call 120; refine (impl_bit_most _).mono ?_; rintro e w1 ⟨rfl, b1⟩))
    have B1 := Lib.hid b1
    clear b1
    go_loopw [19] (fun i wr => ∃ (j : Nat), j ≤ 2 ∧ Hid (noneTo 1 zs j) ∧ i = .int .i64 j ∧ Hid (Below w.heap.size w wr)) (fun i _ => 2 - (intOf i).toNat)
    case atStart => exact ⟨0, by omega, noneTo_zero _ _, rfl, B1.out⟩
    case round =>
      clear B1
      obtain ⟨j, hj, T, rfl, B⟩ := hrel
      by_cases hlt : j < 2
      · cases he : eqB zs (Fp.tenc 1 j)
        · have T2 := Lib.hid (noneTo_succ T.out he)
          go_wp2_with (go_at_call 75; refine (impl_encodes1 j _ _ _ _ _ (H.out.below B.out) (by omega)).mono ?_; rintro e w2 ⟨rfl, b2⟩)
          have B2 := Lib.hid (B.out.trans (b2.mono B.out.size))
          clear b2
          go_roundw
          case rel => exact ⟨j + 1, by omega, T2.out, by go_num, B2.out⟩
          case measure => simp [intOf]; omega
        · have F := Lib.hid (find_yes hk (show j ≤ 1 by omega) he)
          go_wp2_with (go_at_call 75; refine (impl_encodes1 j _ _ _ _ _ (H.out.below B.out) (by omega)).mono ?_; rintro e w2 ⟨rfl, b2⟩)
          have B2 := Lib.hid (B.out.trans (b2.mono B.out.size))
          clear b2
          go_ret2
          exact ⟨by rw [F.out.1, F.out.2]; rfl, B2.out⟩
      · have e : j = 2 := by omega
        subst e
        have F := Lib.hid (find_no hk T.out)
        go_wp2
        go_ret2
        exact ⟨by rw [F.out.1, F.out.2]; rfl, B.out⟩
  · go_enter Tryd.func49, Tryd.ntmps49
    go_wp2_with (first | (go_at_call 74; refine (impl_mo2 _).mono ?_; rintro e w' ⟨rfl, rfl⟩) | (go_at_call 123; refine (impl_pick_most _).mono ?_; rintro e w1 ⟨rfl, b1⟩))
    have B1 := Lib.hid b1
    clear b1
    go_loopw [19] (fun i wr => ∃ (j : Nat), j ≤ 4 ∧ Hid (noneTo 2 zs j) ∧ i = .int .i64 j ∧ Hid (Below w.heap.size w wr)) (fun i _ => 4 - (intOf i).toNat)
    case atStart => exact ⟨0, by omega, noneTo_zero _ _, rfl, B1.out⟩
    case round =>
      clear B1
      obtain ⟨j, hj, T, rfl, B⟩ := hrel
      by_cases hlt : j < 4
      · cases he : eqB zs (Fp.tenc 2 j)
        · have T2 := Lib.hid (noneTo_succ T.out he)
          go_wp2_with (go_at_call 75; refine (impl_encodes2 j _ _ _ _ _ (H.out.below B.out) (by omega)).mono ?_; rintro e w2 ⟨rfl, b2⟩)
          have B2 := Lib.hid (B.out.trans (b2.mono B.out.size))
          clear b2
          go_roundw
          case rel => exact ⟨j + 1, by omega, T2.out, by go_num, B2.out⟩
          case measure => simp [intOf]; omega
        · have F := Lib.hid (find_yes hk (show j ≤ 3 by omega) he)
          go_wp2_with (go_at_call 75; refine (impl_encodes2 j _ _ _ _ _ (H.out.below B.out) (by omega)).mono ?_; rintro e w2 ⟨rfl, b2⟩)
          have B2 := Lib.hid (B.out.trans (b2.mono B.out.size))
          clear b2
          go_ret2
          exact ⟨by rw [F.out.1, F.out.2]; rfl, B2.out⟩
      · have e : j = 4 := by omega
        subst e
        have F := Lib.hid (find_no hk T.out)
        go_wp2
        go_ret2
        exact ⟨by rw [F.out.1, F.out.2]; rfl, B.out⟩
  · go_enter Tryd.func49, Tryd.ntmps49
    go_wp2_with (first | (go_at_call 74; refine (impl_mo3 _).mono ?_; rintro e w' ⟨rfl, rfl⟩) | (go_at_call 126; refine (impl_num_most _).mono ?_; rintro e w1 ⟨rfl, b1⟩))
    have B1 := Lib.hid b1
    clear b1
    go_loopw [19] (fun i wr => ∃ (j : Nat), j ≤ 8 ∧ Hid (noneTo 3 zs j) ∧ i = .int .i64 j ∧ Hid (Below w.heap.size w wr)) (fun i _ => 8 - (intOf i).toNat)
    case atStart => exact ⟨0, by omega, noneTo_zero _ _, rfl, B1.out⟩
    case round =>
      clear B1
      obtain ⟨j, hj, T, rfl, B⟩ := hrel
      by_cases hlt : j < 8
      · cases he : eqB zs (Fp.tenc 3 j)
        · have T2 := Lib.hid (noneTo_succ T.out he)
          go_wp2_with (go_at_call 75; refine (impl_encodes3 j _ _ _ _ _ (H.out.below B.out) (by omega)).mono ?_; rintro e w2 ⟨rfl, b2⟩)
          have B2 := Lib.hid (B.out.trans (b2.mono B.out.size))
          clear b2
          go_roundw
          case rel => exact ⟨j + 1, by omega, T2.out, by go_num, B2.out⟩
          case measure => simp [intOf]; omega
        · have F := Lib.hid (find_yes hk (show j ≤ 7 by omega) he)
          go_wp2_with (go_at_call 75; refine (impl_encodes3 j _ _ _ _ _ (H.out.below B.out) (by omega)).mono ?_; rintro e w2 ⟨rfl, b2⟩)
          have B2 := Lib.hid (B.out.trans (b2.mono B.out.size))
          clear b2
          go_ret2
          exact ⟨by rw [F.out.1, F.out.2]; rfl, B2.out⟩
      · have e : j = 8 := by omega
        subst e
        have F := Lib.hid (find_no hk T.out)
        go_wp2
        go_ret2
        exact ⟨by rw [F.out.1, F.out.2]; rfl, B.out⟩
theorem impl_TypeOk (k : Int) (a : Option Addr) (n cap : Nat) (zs : List Int) (w : World) (h : Sl w a n zs) :
    Calls Tryd.prog 23 #[.int .i64 k, .slice a n cap] w (Bel (.bool (Fp.tok k zs)) w) := by
  have H := Lib.hid h
  clear h
  go_enter Tryd.func23, Tryd.ntmps23
  go_wp2_with (go_at_call 49; refine (impl_TypeVal _ _ _ _ _ _ H.out).mono ?_; rintro e w1 ⟨rfl, b1⟩)
  go_ret
  exact ⟨rfl, b1⟩
end Go.Proofs.YtmfmhhopnmglcaaDoor
