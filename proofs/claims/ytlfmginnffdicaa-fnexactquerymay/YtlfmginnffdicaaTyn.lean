/-
  Chapter 11: what TypeMake, TypeVal, TypeOk and TypeCheck return.
-/
import Derived.Test.YtlfmginnffdicaaTym
import Derived.OwnWalk
namespace Go.Proofs.Ytlfmginnffdicaa
open Go.RowKit
set_option linter.unusedVariables false
set_option linter.unusedSimpArgs false
set_option maxRecDepth 20000
theorem own_nil_b (w w' : World) (h : Below w.heap.size w w') : NewIntsB [] false w (.returned (.tuple #[.slice none 0 0, .bool false])) w' := ⟨none, 0, 0, rfl, Own.nil _ _ _ _ _ (by unfold maxLen; omega), h⟩
theorem enc_done {k : Int} {x n : Nat} (hn : n = Fp.tlen k) : fill (List.replicate n 0) (Fp.dig k x) n = Fp.tenc k x := by
  subst hn
  have := fill_all (zs := List.replicate (Fp.tlen k) (0 : Int)) (ys := Fp.tenc k x) (f := Fp.dig k x) (by simp [Fp.tenc_len]) (fun i hi => by rw [Fp.tenc_get (by simpa using hi)])
  simpa using this
theorem find_yes {k : Int} {x : Nat} {zs : List Int} (hk : Fp.tk k = true) (hx : x ≤ Fp.tmost k) (h : eqB zs (Fp.tenc k x) = true) : Fp.tval k zs = (x : Int) ∧ Fp.tok k zs = true := by
  have : zs = Fp.tenc k x := by simpa [eqB] using h
  subst this
  exact ⟨Fp.tval_enc hk hx, Fp.tok_enc hk hx⟩
theorem find_no {k : Int} {zs : List Int} (hk : Fp.tk k = true) (h : ∀ x, x < Fp.tmost k + 1 → eqB zs (Fp.tenc k x) = false) : Fp.tval k zs = 0 ∧ Fp.tok k zs = false := by
  have := Fp.tfind_none (v := zs) hk (fun x hx e => by have := h x hx; rw [eqB_true e.symm] at this; cases this)
  exact ⟨by rw [Fp.tval, this]; rfl, by rw [Fp.tok, this]; rfl⟩
def noneTo (k : Int) (zs : List Int) (j : Nat) : Prop := ∀ x, x < j → eqB zs (Fp.tenc k x) = false
theorem noneTo_zero (k : Int) (zs : List Int) : noneTo k zs 0 := fun x h => by omega
theorem noneTo_succ {k : Int} {zs : List Int} {j : Nat} (h : noneTo k zs j) (hj : eqB zs (Fp.tenc k j) = false) : noneTo k zs (j + 1) := fun x hx => by
  by_cases e : x = j
  · subst e; exact hj
  · exact h x (by omega)
theorem impl_TypeMake1 (x : Nat) (w : World) (hx : x ≤ 1) :
    Calls Try.prog 21 #[.int .i64 1, .int .i64 (x : Int)] w (NewIntsB (Fp.tenc 1 x) true w) := by
  obtain ⟨i0, hi0, hz0, hz1, hz2⟩ := info_parts int_info
  have d0 : decide ((x : Int) < 0) = false := decide_eq_false (by omega)
  have d1 : decide (1 < (x : Int)) = false := decide_eq_false (by omega)
  have I := Lib.hid (show i0.bytes * 1 ≤ 281474976710656 by rw [hz2]; omega)
  have M : 1 ≤ maxLen := by unfold maxLen; omega
  go_enter Try.func21, Try.ntmps21
  go_wp2_with (first | (go_at_call 32; refine (impl_mo1 _).mono ?_; rintro e w' ⟨rfl, rfl⟩) | (go_at_call 72; refine (impl_bit_most _).mono ?_; rintro e w1 ⟨rfl, b1⟩) | (go_at_call 73; refine (impl_bit_size _).mono ?_; rintro e w2 ⟨rfl, b2⟩) | ((with_reducible refine wpList_make_full _ rfl (.tmp 28) (.tmp 28) 22 rfl w2.heap.size 3 i0 _ 1 Try.underlying22 hi0 hz0 hz1 .i64 .i64 _ _ 1 rfl rfl rfl rfl I.out M (Nat.le_refl _) ?_); intro w3 own grow))
  have B0 := Lib.hid (b1.trans (b2.mono b1.size))
  have Z0 := Lib.hid B0.out.size
  have O := Lib.hid (Own.of_row (own_made own))
  have B := Lib.hid ((Below.refl w2.heap.size w2).grown grow (Nat.le_refl _) (by simp))
  clear own grow b1 b2
  go_loopw [32] (fun i wr => ∃ j : Nat, j ≤ 1 ∧ i = .int .i64 j ∧ Hid (Own w2.heap.size wr.heap.size wr (some ⟨w2.heap.size, 0, none⟩) 1 1 (fill (List.replicate 1 0) (Fp.dig 1 x) j)) ∧ Hid (Below w2.heap.size w2 wr)) (fun i _ => 1 - (intOf i).toNat)
  case atStart => exact ⟨0, by omega, rfl, O.out, B.out⟩
  case round =>
    clear O B
    obtain ⟨j, hj, rfl, hO, hB⟩ := hrel
    by_cases hlt : j < 1
    · go_wp2_with fail
      refine (impl_bit_digit x j _ (by omega) (by omega)).mono ?_
      rintro e w4 ⟨rfl, b4⟩
      have o4 := hO.out.below b4
      have B4 := Lib.hid (hB.out.trans (b4.mono hB.out.size))
      have S4 := Lib.hid b4.size
      clear b4
      obtain ⟨hlo, hhi, z', hc', hf', -⟩ := o4.get0 hlt
      have O2 := Lib.hid (o4.set0 hlt (Fp.dig 1 x j))
      have B2 := Lib.hid (B4.out.setCell (p := ⟨w2.heap.size, j, none⟩) (Nat.le_refl _) (.int .i64 (Fp.dig 1 x j)))
      clear o4
      go_wp2
      go_roundw
      case rel => exact ⟨j + 1, by omega, by go_num, by show Own _ _ _ _ _ _ _; have := O2.out.lt; simpa [fill, World.setCell] using this, B2.out⟩
      case measure => simp [intOf]; omega
    · have e : j = 1 := by omega
      subst e
      have F := Lib.hid (enc_done (k := 1) (x := x) (n := 1) rfl)
      go_wp2
      go_ret2
      exact ⟨_, _, _, rfl, by have := hO.out; rw [F.out] at this; exact this.more Z0.out (Nat.le_refl _), B0.out.trans (hB.out.mono Z0.out)⟩
theorem impl_TypeMake2 (x : Nat) (w : World) (hx : x ≤ 3) :
    Calls Try.prog 21 #[.int .i64 2, .int .i64 (x : Int)] w (NewIntsB (Fp.tenc 2 x) true w) := by
  obtain ⟨i0, hi0, hz0, hz1, hz2⟩ := info_parts int_info
  have d0 : decide ((x : Int) < 0) = false := decide_eq_false (by omega)
  have d1 : decide (3 < (x : Int)) = false := decide_eq_false (by omega)
  have I := Lib.hid (show i0.bytes * 4 ≤ 281474976710656 by rw [hz2]; omega)
  have M : 4 ≤ maxLen := by unfold maxLen; omega
  go_enter Try.func21, Try.ntmps21
  go_wp2_with (first | (go_at_call 32; refine (impl_mo2 _).mono ?_; rintro e w' ⟨rfl, rfl⟩) | (go_at_call 75; refine (impl_pick_most _).mono ?_; rintro e w1 ⟨rfl, b1⟩) | (go_at_call 76; refine (impl_pick_size _).mono ?_; rintro e w2 ⟨rfl, b2⟩) | ((with_reducible refine wpList_make_full _ rfl (.tmp 28) (.tmp 28) 22 rfl w2.heap.size 3 i0 _ 1 Try.underlying22 hi0 hz0 hz1 .i64 .i64 _ _ 4 rfl rfl rfl rfl I.out M (Nat.le_refl _) ?_); intro w3 own grow))
  have B0 := Lib.hid (b1.trans (b2.mono b1.size))
  have Z0 := Lib.hid B0.out.size
  have O := Lib.hid (Own.of_row (own_made own))
  have B := Lib.hid ((Below.refl w2.heap.size w2).grown grow (Nat.le_refl _) (by simp))
  clear own grow b1 b2
  go_loopw [32] (fun i wr => ∃ j : Nat, j ≤ 4 ∧ i = .int .i64 j ∧ Hid (Own w2.heap.size wr.heap.size wr (some ⟨w2.heap.size, 0, none⟩) 4 4 (fill (List.replicate 4 0) (Fp.dig 2 x) j)) ∧ Hid (Below w2.heap.size w2 wr)) (fun i _ => 4 - (intOf i).toNat)
  case atStart => exact ⟨0, by omega, rfl, O.out, B.out⟩
  case round =>
    clear O B
    obtain ⟨j, hj, rfl, hO, hB⟩ := hrel
    by_cases hlt : j < 4
    · go_wp2_with fail
      refine (impl_pick_digit x j _).mono ?_
      rintro e w4 ⟨rfl, b4⟩
      have o4 := hO.out.below b4
      have B4 := Lib.hid (hB.out.trans (b4.mono hB.out.size))
      have S4 := Lib.hid b4.size
      clear b4
      obtain ⟨hlo, hhi, z', hc', hf', -⟩ := o4.get0 hlt
      have O2 := Lib.hid (o4.set0 hlt (Fp.dig 2 x j))
      have B2 := Lib.hid (B4.out.setCell (p := ⟨w2.heap.size, j, none⟩) (Nat.le_refl _) (.int .i64 (Fp.dig 2 x j)))
      clear o4
      go_wp2
      go_roundw
      case rel => exact ⟨j + 1, by omega, by go_num, by show Own _ _ _ _ _ _ _; have := O2.out.lt; simpa [fill, World.setCell] using this, B2.out⟩
      case measure => simp [intOf]; omega
    · have e : j = 4 := by omega
      subst e
      have F := Lib.hid (enc_done (k := 2) (x := x) (n := 4) rfl)
      go_wp2
      go_ret2
      exact ⟨_, _, _, rfl, by have := hO.out; rw [F.out] at this; exact this.more Z0.out (Nat.le_refl _), B0.out.trans (hB.out.mono Z0.out)⟩
theorem impl_TypeMake3 (x : Nat) (w : World) (hx : x ≤ 7) :
    Calls Try.prog 21 #[.int .i64 3, .int .i64 (x : Int)] w (NewIntsB (Fp.tenc 3 x) true w) := by
  obtain ⟨i0, hi0, hz0, hz1, hz2⟩ := info_parts int_info
  have d0 : decide ((x : Int) < 0) = false := decide_eq_false (by omega)
  have d1 : decide (7 < (x : Int)) = false := decide_eq_false (by omega)
  have I := Lib.hid (show i0.bytes * 3 ≤ 281474976710656 by rw [hz2]; omega)
  have M : 3 ≤ maxLen := by unfold maxLen; omega
  go_enter Try.func21, Try.ntmps21
  go_wp2_with (first | (go_at_call 32; refine (impl_mo3 _).mono ?_; rintro e w' ⟨rfl, rfl⟩) | (go_at_call 78; refine (impl_num_most _).mono ?_; rintro e w1 ⟨rfl, b1⟩) | (go_at_call 79; refine (impl_num_size _).mono ?_; rintro e w2 ⟨rfl, b2⟩) | ((with_reducible refine wpList_make_full _ rfl (.tmp 28) (.tmp 28) 22 rfl w2.heap.size 3 i0 _ 1 Try.underlying22 hi0 hz0 hz1 .i64 .i64 _ _ 3 rfl rfl rfl rfl I.out M (Nat.le_refl _) ?_); intro w3 own grow))
  have B0 := Lib.hid (b1.trans (b2.mono b1.size))
  have Z0 := Lib.hid B0.out.size
  have O := Lib.hid (Own.of_row (own_made own))
  have B := Lib.hid ((Below.refl w2.heap.size w2).grown grow (Nat.le_refl _) (by simp))
  clear own grow b1 b2
  go_loopw [32] (fun i wr => ∃ j : Nat, j ≤ 3 ∧ i = .int .i64 j ∧ Hid (Own w2.heap.size wr.heap.size wr (some ⟨w2.heap.size, 0, none⟩) 3 3 (fill (List.replicate 3 0) (Fp.dig 3 x) j)) ∧ Hid (Below w2.heap.size w2 wr)) (fun i _ => 3 - (intOf i).toNat)
  case atStart => exact ⟨0, by omega, rfl, O.out, B.out⟩
  case round =>
    clear O B
    obtain ⟨j, hj, rfl, hO, hB⟩ := hrel
    by_cases hlt : j < 3
    · go_wp2_with fail
      refine (impl_num_digit x j _ (by omega) (by omega)).mono ?_
      rintro e w4 ⟨rfl, b4⟩
      have o4 := hO.out.below b4
      have B4 := Lib.hid (hB.out.trans (b4.mono hB.out.size))
      have S4 := Lib.hid b4.size
      clear b4
      obtain ⟨hlo, hhi, z', hc', hf', -⟩ := o4.get0 hlt
      have O2 := Lib.hid (o4.set0 hlt (Fp.dig 3 x j))
      have B2 := Lib.hid (B4.out.setCell (p := ⟨w2.heap.size, j, none⟩) (Nat.le_refl _) (.int .i64 (Fp.dig 3 x j)))
      clear o4
      go_wp2
      go_roundw
      case rel => exact ⟨j + 1, by omega, by go_num, by show Own _ _ _ _ _ _ _; have := O2.out.lt; simpa [fill, World.setCell] using this, B2.out⟩
      case measure => simp [intOf]; omega
    · have e : j = 3 := by omega
      subst e
      have F := Lib.hid (enc_done (k := 3) (x := x) (n := 3) rfl)
      go_wp2
      go_ret2
      exact ⟨_, _, _, rfl, by have := hO.out; rw [F.out] at this; exact this.more Z0.out (Nat.le_refl _), B0.out.trans (hB.out.mono Z0.out)⟩
theorem impl_TypeMake_no (k v : Int) (w : World) (h : Fp.tcan k v = false) :
    Calls Try.prog 21 #[.int .i64 k, .int .i64 v] w (NewIntsB [] false w) := by
  cases hk : Fp.tk k
  · go_enter Try.func21, Try.ntmps21
    go_wp2_with (go_at_call 32; refine (impl_mo0 _ _ hk).mono ?_; rintro e w' ⟨rfl, rfl⟩)
    go_ret2
    exact own_nil_b _ _ (Below.refl _ _)
  by_cases h0 : v < 0
  · have d0 : decide (v < 0) = true := by simpa using h0
    clear h
    rcases Fp.tk_cases hk with rfl | rfl | rfl
    · clear hk
      go_enter Try.func21, Try.ntmps21
      go_wp2_with (go_at_call 32; refine (impl_mo1 _).mono ?_; rintro e w' ⟨rfl, rfl⟩)
      go_ret2
      exact own_nil_b _ _ (Below.refl _ _)
    · clear hk
      go_enter Try.func21, Try.ntmps21
      go_wp2_with (go_at_call 32; refine (impl_mo2 _).mono ?_; rintro e w' ⟨rfl, rfl⟩)
      go_ret2
      exact own_nil_b _ _ (Below.refl _ _)
    · clear hk
      go_enter Try.func21, Try.ntmps21
      go_wp2_with (go_at_call 32; refine (impl_mo3 _).mono ?_; rintro e w' ⟨rfl, rfl⟩)
      go_ret2
      exact own_nil_b _ _ (Below.refl _ _)
  have d0 : decide (v < 0) = false := by simpa using h0
  have h1 : ((Fp.tmost k : Nat) : Int) < v := by
    rcases Int.lt_or_le ((Fp.tmost k : Nat) : Int) v with h1 | h1
    · exact h1
    · rw [Fp.tcan_yes hk (by omega) h1] at h; cases h
  clear h h0
  rcases Fp.tk_cases hk with rfl | rfl | rfl
  · have d1 : decide (1 < v) = true := decide_eq_true (show (1 : Int) < v from h1)
    clear hk h1
    go_enter Try.func21, Try.ntmps21
    go_wp2_with (first | (go_at_call 32; refine (impl_mo1 _).mono ?_; rintro e w' ⟨rfl, rfl⟩) | (go_at_call 72; refine (impl_bit_most _).mono ?_; rintro e w1 ⟨rfl, b1⟩))
    go_ret2
    exact own_nil_b _ _ b1
  · have d1 : decide (3 < v) = true := decide_eq_true (show (3 : Int) < v from h1)
    clear hk h1
    go_enter Try.func21, Try.ntmps21
    go_wp2_with (first | (go_at_call 32; refine (impl_mo2 _).mono ?_; rintro e w' ⟨rfl, rfl⟩) | (go_at_call 75; refine (impl_pick_most _).mono ?_; rintro e w1 ⟨rfl, b1⟩))
    go_ret2
    exact own_nil_b _ _ b1
  · have d1 : decide (7 < v) = true := decide_eq_true (show (7 : Int) < v from h1)
    clear hk h1
    go_enter Try.func21, Try.ntmps21
    go_wp2_with (first | (go_at_call 32; refine (impl_mo3 _).mono ?_; rintro e w' ⟨rfl, rfl⟩) | (go_at_call 78; refine (impl_num_most _).mono ?_; rintro e w1 ⟨rfl, b1⟩))
    go_ret2
    exact own_nil_b _ _ b1
theorem impl_TypeMake (k v : Int) (w : World) :
    Calls Try.prog 21 #[.int .i64 k, .int .i64 v] w (NewIntsB (Fp.tmk k v) (Fp.tcan k v) w) := by
  cases h : Fp.tcan k v
  · rw [Fp.tmk_no h]; exact impl_TypeMake_no k v w h
  · rw [Fp.tmk_yes h]
    obtain ⟨hk, h0, h1⟩ := Fp.tcan_iff.1 h
    obtain ⟨x, rfl⟩ := Int.eq_ofNat_of_zero_le h0
    have hx : x ≤ Fp.tmost k := by omega
    rcases Fp.tk_cases hk with rfl | rfl | rfl
    · exact impl_TypeMake1 x w hx
    · exact impl_TypeMake2 x w hx
    · exact impl_TypeMake3 x w hx
theorem impl_sumOf (a : Option Addr) (n cap : Nat) (zs : List Int) (w : World) (h : Sl w a n zs) (hs : Fp.sok zs = true) :
    Calls Try.prog 53 #[.slice a n cap] w fun e w' => e = .returned (.int .i64 (Fp.sr zs n)) ∧ w = w' := by
  have H := Lib.hid h
  clear h
  have n20 : n ≤ 20 := by have := Fp.sok_len hs; rw [H.out.len] at this; exact this
  go_enter Try.func53, Try.ntmps53
  go_wp2
  go_loop [3, 8] (fun v i => ∃ j : Nat, j ≤ n ∧ v = .int .i64 (Fp.sr zs j) ∧ i = .int .i64 j) (fun _ i => n - (intOf i).toNat)
  case atStart => exact ⟨0, by omega, rfl, rfl⟩
  case round =>
    obtain ⟨j, hj, rfl, rfl⟩ := hrel
    by_cases hlt : j < n
    · obtain ⟨b, off, z, rfl, hc, hz⟩ := H.out.get hlt
      have hzo : Fp.ok z = true := by rw [hz.out]; exact Fp.sok_get hs j
      have E : Hid (Fp.sr zs (j + 1) = (Fp.sr zs j + z) % 31) := by show _ = _; rw [Fp.sr, hz.out]
      go_wp2_with (go_at_call 37; refine (impl_plus _ _ _ (Fp.sr_ok _ _) hzo).mono ?_; rintro e w' ⟨rfl, rfl⟩)
      go_round
      case rel => exact ⟨j + 1, by omega, by rw [E.out], by go_num⟩
      case measure => simp [intOf]; omega
    · have e : j = n := by omega
      subst e
      go_wp2
      go_ret
      exact ⟨rfl, rfl⟩
theorem impl_assert1 (w : World) : (Instr.typeAssert (.iface 60 (.agg #[])) 43 61 true).run Try.prog w = .ok (.tuple #[.agg #[], .bool false]) w := by kernel_rfl
theorem impl_surplus1 (a : Option Addr) (n cap : Nat) (zs : List Int) (w : World) (h : Sl w a n zs) (hs : Fp.sok zs = true) :
    Calls Try.prog 38 #[.iface 60 (.agg #[]), .slice a n cap, .int .i64 1] w fun e w' => e = .returned (.int .i64 (Fp.sur 1 zs)) ∧ w = w' := by
  have H := Lib.hid h
  have L := Lib.hid h.len
  clear h
  have ta := impl_assert1
  go_enter Try.func38, Try.ntmps38
  go_wp2
  go_ret
  exact ⟨rfl, rfl⟩
theorem impl_assert2 (w : World) : (Instr.typeAssert (.iface 61 (.agg #[])) 43 61 true).run Try.prog w = .ok (.tuple #[.agg #[], .bool true]) w := by kernel_rfl
theorem impl_surplus2 (a : Option Addr) (n cap : Nat) (zs : List Int) (w : World) (h : Sl w a n zs) (hs : Fp.sok zs = true) :
    Calls Try.prog 38 #[.iface 61 (.agg #[]), .slice a n cap, .int .i64 1] w fun e w' => e = .returned (.int .i64 (Fp.sur 2 zs)) ∧ w = w' := by
  have H := Lib.hid h
  have L := Lib.hid h.len
  clear h
  have ta := impl_assert2
  go_enter Try.func38, Try.ntmps38
  go_wp2_with (first | (go_at_call 53; refine (impl_sumOf _ _ _ _ _ H.out hs).mono ?_; rintro e w' ⟨rfl, rfl⟩) | (go_at_call 36; refine (impl_minus _ _ _ (Fp.sr_ok _ _) rfl).mono ?_; rintro e w' ⟨rfl, rfl⟩))
  go_ret
  exact ⟨by rw [Fp.sur, if_pos rfl, L.out]; rfl, rfl⟩
theorem impl_assert3 (w : World) : (Instr.typeAssert (.iface 62 (.agg #[])) 43 61 true).run Try.prog w = .ok (.tuple #[.agg #[], .bool false]) w := by kernel_rfl
theorem impl_surplus3 (a : Option Addr) (n cap : Nat) (zs : List Int) (w : World) (h : Sl w a n zs) (hs : Fp.sok zs = true) :
    Calls Try.prog 38 #[.iface 62 (.agg #[]), .slice a n cap, .int .i64 1] w fun e w' => e = .returned (.int .i64 (Fp.sur 3 zs)) ∧ w = w' := by
  have H := Lib.hid h
  have L := Lib.hid h.len
  clear h
  have ta := impl_assert3
  go_enter Try.func38, Try.ntmps38
  go_wp2
  go_ret
  exact ⟨rfl, rfl⟩
end Go.Proofs.Ytlfmginnffdicaa
