/-
  Chapter 11: what the model's functions return.
-/
import Derived.Test.YtlfmginnffdicaaTyn
import Derived.Deep.QuietTactic
import Derived.BigQuiet
namespace Go.Proofs.Ytlfmginnffdicaa
open Go.RowKit
set_option linter.unusedVariables false
set_option linter.unusedSimpArgs false
set_option maxRecDepth 20000
theorem spec_TypeLen (k : Int) (w : World) :
    Calls Try.prog 50 #[.int .i64 k] w fun e w' => e = .returned (.int .i64 (Fp.tlen k : Int)) ∧ w = w' := by
  by_cases h1 : k = 1
  · subst h1
    go_enter Try.func50, Try.ntmps50
    go_wp2
    go_ret
    exact ⟨rfl, rfl⟩
  by_cases h2 : k = 2
  · subst h2
    go_enter Try.func50, Try.ntmps50
    go_wp2
    go_ret
    exact ⟨rfl, rfl⟩
  by_cases h3 : k = 3
  · subst h3
    go_enter Try.func50, Try.ntmps50
    go_wp2
    go_ret
    exact ⟨rfl, rfl⟩
  have e1 : Fp.tlen k = 0 := by simp [Fp.tlen, h1, h2, h3]
  have b1 := beqF h1
  have b2 := beqF h2
  have b3 := beqF h3
  clear h1 h2 h3
  rw [e1]; clear e1
  go_enter Try.func50, Try.ntmps50
  go_wp2
  go_ret
  exact ⟨rfl, rfl⟩
theorem spec_l11Kind (k : Int) (w : World) :
    Calls Try.prog 44 #[.int .i64 k] w fun e w' => e = .returned (.bool (Fp.tk k)) ∧ w = w' := by
  go_enter Try.func44, Try.ntmps44
  go_wp2_with (go_at_call 45; refine (spec_l6In _ _ _ _).mono ?_; rintro e w' ⟨rfl, rfl⟩)
  go_ret
  exact ⟨rfl, rfl⟩
theorem spec_l11Most (k : Int) (w : World) (hk : Fp.tk k = true) :
    Calls Try.prog 46 #[.int .i64 k] w (Bel (.int .i64 (Fp.tmost k : Int)) w) := by
  rcases Fp.tk_cases hk with rfl | rfl | rfl
  · clear hk
    go_enter Try.func46, Try.ntmps46
    go_wp2
    go_ret
    exact ⟨rfl, bel_box _ _⟩
  · clear hk
    go_enter Try.func46, Try.ntmps46
    go_wp2
    go_ret
    exact ⟨rfl, bel_box _ _⟩
  · clear hk
    go_enter Try.func46, Try.ntmps46
    go_wp2
    go_ret
    exact ⟨rfl, bel_box _ _⟩
theorem fill_skip {n j : Nat} {f : Nat → Int} (hj : j < n) (h : f j = 0) : fill (List.replicate n 0) f (j + 1) = fill (List.replicate n 0) f j := by
  apply ext_getD (by simp [fill_len])
  intro i hi
  rw [fill_len] at hi
  rw [fill_get _ _ _ _ hi, fill_get _ _ _ _ hi]
  have hi' : i < n := by simpa using hi
  have e0 : (List.replicate n (0 : Int)).getD i 0 = 0 := by simp [List.getD_eq_getElem?_getD, hi']
  by_cases e : i = j
  · subst e; rw [if_pos (Nat.lt_succ_self _), if_neg (Nat.lt_irrefl _), h, e0]
  · by_cases l : i < j
    · simp [l, Nat.lt_succ_of_lt l]
    · have : ¬ i < j + 1 := by omega
      simp [l, this]
theorem half_step (x j : Nat) : x / 2 ^ (j + 1) = x / 2 ^ j / 2 := by rw [Nat.pow_succ, Nat.div_div_eq_div_mul]
theorem spec_l11Make1 (x : Nat) (w : World) (hx : x ≤ 1) :
    Calls Try.prog 47 #[.int .i64 1, .int .i64 (x : Int)] w (NewInts (Fp.tenc 1 x) w) := by
  obtain ⟨i0, hi0, hz0, hz1, hz2⟩ := info_parts int_info
  have I := Lib.hid (show i0.bytes * 1 ≤ 281474976710656 by rw [hz2]; omega)
  have M : 1 ≤ maxLen := by unfold maxLen; omega
  have TL : ((Fp.tlen 1 : Nat) : Int) = 1 := rfl
  go_enter Try.func47, Try.ntmps47
  go_wp2_with (first | (go_at_call 50; refine (spec_TypeLen _ _).mono ?_; rintro e w' ⟨rfl, rfl⟩; rw [TL]) | ((with_reducible refine wpList_make_full _ rfl (.tmp 8) (.tmp 8) 22 rfl w.heap.size 3 i0 _ 1 Try.underlying22 hi0 hz0 hz1 .i64 .i64 _ _ 1 rfl rfl rfl rfl I.out M (Nat.le_refl _) ?_); intro w3 own grow))
  have O := Lib.hid (Own.of_row (own_made own))
  have B := Lib.hid ((Below.refl w.heap.size w).grown grow (Nat.le_refl _) (by simp))
  clear own grow
  go_loopw [1, 6] (fun v i wr => ∃ j : Nat, j ≤ 1 ∧ v = .int .i64 ((x / 2 ^ j : Nat) : Int) ∧ i = .int .i64 j ∧ Hid (Own w.heap.size wr.heap.size wr (some ⟨w.heap.size, 0, none⟩) 1 1 (fill (List.replicate 1 0) (Fp.dig 1 x) j)) ∧ Hid (Below w.heap.size w wr)) (fun _ i _ => 1 - (intOf i).toNat)
  case atStart => exact ⟨0, by omega, by simp, rfl, O.out, B.out⟩
  case round =>
    clear O B
    obtain ⟨j, hj, rfl, rfl, hO, hB⟩ := hrel
    by_cases hlt : j < 1
    · obtain ⟨hlo, hhi, z', hc', hf', -⟩ := hO.out.get0 hlt
      obtain ⟨y, hy⟩ : ∃ y, x / 2 ^ j = y := ⟨_, rfl⟩
      have hs : Hid (x / 2 ^ (j + 1) = y / 2) := by show _ = _; rw [half_step, hy]
      have yx : y ≤ 1 := by rw [← hy]; exact Nat.le_trans (Nat.div_le_self _ _) hx
      have hg : Fp.dig 1 x j = ((y % 2 : Nat) : Int) := by rw [← hy]; rfl
      rw [hy]
      by_cases hd : y % 2 = 1
      · have D : Hid (Fp.dig 1 x j = 1) := by show _ = _; rw [hg, hd]; rfl
        have hb : ((y : Int) % 2 == 1) = true := beqT (by omega)
        have O2 := Lib.hid (hO.out.set0 hlt 1)
        have B2 := Lib.hid (hB.out.setCell (p := ⟨w.heap.size, j, none⟩) (Nat.le_refl _) (.int .i64 1))
        clear hd hg hy
        go_wp2
        go_roundw
        case rel => exact ⟨j + 1, by omega, by rw [hs.out]; go_num, by go_num, by show Own _ _ _ _ _ _ _; have := O2.out.lt; simpa [fill, World.setCell, D.out] using this, B2.out⟩
        case measure => simp [intOf]; omega
      · have D : Hid (fill (List.replicate 1 0) (Fp.dig 1 x) (j + 1) = fill (List.replicate 1 0) (Fp.dig 1 x) j) := fill_skip hlt (by rw [hg]; omega)
        have hb : ((y : Int) % 2 == 1) = false := beqF (by omega)
        clear hd hg hy
        go_wp2
        go_roundw
        case rel => exact ⟨j + 1, by omega, by rw [hs.out]; go_num, by go_num, by show Own _ _ _ _ _ _ _; rw [D.out]; exact hO.out, hB.out⟩
        case measure => simp [intOf]; omega
    · have e : j = 1 := by omega
      subst e
      have F := Lib.hid (enc_done (k := 1) (x := x) (n := 1) rfl)
      go_wp2
      go_ret
      exact ⟨_, _, _, rfl, by have := hO.out; rw [F.out] at this; exact this, hB.out⟩
theorem spec_l11Make2 (x : Nat) (w : World) (hx : x ≤ 3) :
    Calls Try.prog 47 #[.int .i64 2, .int .i64 (x : Int)] w (NewInts (Fp.tenc 2 x) w) := by
  obtain ⟨i0, hi0, hz0, hz1, hz2⟩ := info_parts int_info
  have I := Lib.hid (show i0.bytes * 4 ≤ 281474976710656 by rw [hz2]; omega)
  have M : 4 ≤ maxLen := by unfold maxLen; omega
  have TL : ((Fp.tlen 2 : Nat) : Int) = 4 := rfl
  go_enter Try.func47, Try.ntmps47
  go_wp2_with (first | (go_at_call 50; refine (spec_TypeLen _ _).mono ?_; rintro e w' ⟨rfl, rfl⟩; rw [TL]) | ((with_reducible refine wpList_make_full _ rfl (.tmp 8) (.tmp 8) 22 rfl w.heap.size 3 i0 _ 1 Try.underlying22 hi0 hz0 hz1 .i64 .i64 _ _ 4 rfl rfl rfl rfl I.out M (Nat.le_refl _) ?_); intro w3 own grow))
  have O := Lib.hid (Own.of_row (own_made own))
  have B := Lib.hid ((Below.refl w.heap.size w).grown grow (Nat.le_refl _) (by simp))
  clear own grow
  go_loopw [1, 6] (fun v i wr => ∃ j : Nat, j ≤ 4 ∧ v = .int .i64 (x : Int) ∧ i = .int .i64 j ∧ Hid (Own w.heap.size wr.heap.size wr (some ⟨w.heap.size, 0, none⟩) 4 4 (fill (List.replicate 4 0) (Fp.dig 2 x) j)) ∧ Hid (Below w.heap.size w wr)) (fun _ i _ => 4 - (intOf i).toNat)
  case atStart => exact ⟨0, by omega, by simp, rfl, O.out, B.out⟩
  case round =>
    clear O B
    obtain ⟨j, hj, rfl, rfl, hO, hB⟩ := hrel
    by_cases hlt : j < 4
    · obtain ⟨hlo, hhi, z', hc', hf', -⟩ := hO.out.get0 hlt
      by_cases hd : j = x
      · have D : Hid (Fp.dig 2 x j = 1) := by show _ = _; simp [Fp.dig, hd]
        have hb : ((j : Int) == (x : Int)) = true := beqT (by omega)
        have O2 := Lib.hid (hO.out.set0 hlt 1)
        have B2 := Lib.hid (hB.out.setCell (p := ⟨w.heap.size, j, none⟩) (Nat.le_refl _) (.int .i64 1))
        clear hd
        go_wp2
        go_roundw
        case rel => exact ⟨j + 1, by omega, rfl, by go_num, by show Own _ _ _ _ _ _ _; have := O2.out.lt; simpa [fill, World.setCell, D.out] using this, B2.out⟩
        case measure => simp [intOf]; omega
      · have D : Hid (fill (List.replicate 4 0) (Fp.dig 2 x) (j + 1) = fill (List.replicate 4 0) (Fp.dig 2 x) j) := fill_skip hlt (by simp [Fp.dig, Ne.symm hd])
        have hb : ((j : Int) == (x : Int)) = false := beqF (by omega)
        clear hd
        go_wp2
        go_roundw
        case rel => exact ⟨j + 1, by omega, rfl, by go_num, by show Own _ _ _ _ _ _ _; rw [D.out]; exact hO.out, hB.out⟩
        case measure => simp [intOf]; omega
    · have e : j = 4 := by omega
      subst e
      have F := Lib.hid (enc_done (k := 2) (x := x) (n := 4) rfl)
      go_wp2
      go_ret
      exact ⟨_, _, _, rfl, by have := hO.out; rw [F.out] at this; exact this, hB.out⟩
theorem spec_l11Make3 (x : Nat) (w : World) (hx : x ≤ 7) :
    Calls Try.prog 47 #[.int .i64 3, .int .i64 (x : Int)] w (NewInts (Fp.tenc 3 x) w) := by
  obtain ⟨i0, hi0, hz0, hz1, hz2⟩ := info_parts int_info
  have I := Lib.hid (show i0.bytes * 3 ≤ 281474976710656 by rw [hz2]; omega)
  have M : 3 ≤ maxLen := by unfold maxLen; omega
  have TL : ((Fp.tlen 3 : Nat) : Int) = 3 := rfl
  go_enter Try.func47, Try.ntmps47
  go_wp2_with (first | (go_at_call 50; refine (spec_TypeLen _ _).mono ?_; rintro e w' ⟨rfl, rfl⟩; rw [TL]) | ((with_reducible refine wpList_make_full _ rfl (.tmp 8) (.tmp 8) 22 rfl w.heap.size 3 i0 _ 1 Try.underlying22 hi0 hz0 hz1 .i64 .i64 _ _ 3 rfl rfl rfl rfl I.out M (Nat.le_refl _) ?_); intro w3 own grow))
  have O := Lib.hid (Own.of_row (own_made own))
  have B := Lib.hid ((Below.refl w.heap.size w).grown grow (Nat.le_refl _) (by simp))
  clear own grow
  go_loopw [1, 6] (fun v i wr => ∃ j : Nat, j ≤ 3 ∧ v = .int .i64 ((x / 2 ^ j : Nat) : Int) ∧ i = .int .i64 j ∧ Hid (Own w.heap.size wr.heap.size wr (some ⟨w.heap.size, 0, none⟩) 3 3 (fill (List.replicate 3 0) (Fp.dig 3 x) j)) ∧ Hid (Below w.heap.size w wr)) (fun _ i _ => 3 - (intOf i).toNat)
  case atStart => exact ⟨0, by omega, by simp, rfl, O.out, B.out⟩
  case round =>
    clear O B
    obtain ⟨j, hj, rfl, rfl, hO, hB⟩ := hrel
    by_cases hlt : j < 3
    · obtain ⟨hlo, hhi, z', hc', hf', -⟩ := hO.out.get0 hlt
      obtain ⟨y, hy⟩ : ∃ y, x / 2 ^ j = y := ⟨_, rfl⟩
      have hs : Hid (x / 2 ^ (j + 1) = y / 2) := by show _ = _; rw [half_step, hy]
      have yx : y ≤ 7 := by rw [← hy]; exact Nat.le_trans (Nat.div_le_self _ _) hx
      have hg : Fp.dig 3 x j = ((y % 2 : Nat) : Int) := by rw [← hy]; rfl
      rw [hy]
      by_cases hd : y % 2 = 1
      · have D : Hid (Fp.dig 3 x j = 1) := by show _ = _; rw [hg, hd]; rfl
        have hb : ((y : Int) % 2 == 1) = true := beqT (by omega)
        have O2 := Lib.hid (hO.out.set0 hlt 1)
        have B2 := Lib.hid (hB.out.setCell (p := ⟨w.heap.size, j, none⟩) (Nat.le_refl _) (.int .i64 1))
        clear hd hg hy
        go_wp2
        go_roundw
        case rel => exact ⟨j + 1, by omega, by rw [hs.out]; go_num, by go_num, by show Own _ _ _ _ _ _ _; have := O2.out.lt; simpa [fill, World.setCell, D.out] using this, B2.out⟩
        case measure => simp [intOf]; omega
      · have D : Hid (fill (List.replicate 3 0) (Fp.dig 3 x) (j + 1) = fill (List.replicate 3 0) (Fp.dig 3 x) j) := fill_skip hlt (by rw [hg]; omega)
        have hb : ((y : Int) % 2 == 1) = false := beqF (by omega)
        clear hd hg hy
        go_wp2
        go_roundw
        case rel => exact ⟨j + 1, by omega, by rw [hs.out]; go_num, by go_num, by show Own _ _ _ _ _ _ _; rw [D.out]; exact hO.out, hB.out⟩
        case measure => simp [intOf]; omega
    · have e : j = 3 := by omega
      subst e
      have F := Lib.hid (enc_done (k := 3) (x := x) (n := 3) rfl)
      go_wp2
      go_ret
      exact ⟨_, _, _, rfl, by have := hO.out; rw [F.out] at this; exact this, hB.out⟩
theorem spec_l11Make (k : Int) (x : Nat) (w : World) (hk : Fp.tk k = true) (hx : x ≤ Fp.tmost k) :
    Calls Try.prog 47 #[.int .i64 k, .int .i64 (x : Int)] w (NewInts (Fp.tenc k x) w) := by
  rcases Fp.tk_cases hk with rfl | rfl | rfl
  · exact spec_l11Make1 x w hx
  · exact spec_l11Make2 x w hx
  · exact spec_l11Make3 x w hx
theorem spec_TypeMake (k v : Int) (w : World) :
    Calls Try.prog 20 #[.int .i64 k, .int .i64 v] w (NewIntsB (Fp.tmk k v) (Fp.tcan k v) w) := by
  cases hk : Fp.tk k
  · rw [Fp.tcan_nk hk, Fp.tmk_no (Fp.tcan_nk hk)]
    go_enter Try.func20, Try.ntmps20
    go_wp2_with (go_at_call 44; refine (spec_l11Kind _ _).mono ?_; rintro e w' ⟨rfl, rfl⟩)
    go_ret2
    exact ⟨_, _, _, rfl, Own.nil _ _ _ _ _ (by unfold maxLen; omega), bel_box _ _⟩
  · have E : Hid (inB v 0 (Fp.tmost k : Int) = Fp.tcan k v) := by show _ = _; simp [inB, Fp.tcan, hk]
    cases hc : Fp.tcan k v
    · have E2 : inB v 0 (Fp.tmost k : Int) = false := by rw [E.out, hc]
      rw [Fp.tmk_no hc]
      go_enter Try.func20, Try.ntmps20
      go_wp2_with (first | (go_at_call 44; refine (spec_l11Kind _ _).mono ?_; rintro e w' ⟨rfl, rfl⟩) | (go_at_call 46; refine (spec_l11Most _ _ hk).mono ?_; rintro e w1 ⟨rfl, b1⟩) | (go_at_call 45; refine (spec_l6In _ _ _ _).mono ?_; rintro e w' ⟨rfl, rfl⟩))
      go_ret2
      exact ⟨_, _, _, rfl, Own.nil _ _ _ _ _ (by unfold maxLen; omega), b1.trans ((bel_box _ _).mono b1.size)⟩
    · have E2 : inB v 0 (Fp.tmost k : Int) = true := by rw [E.out, hc]
      rw [Fp.tmk_yes hc]
      obtain ⟨-, h0, h1⟩ := Fp.tcan_iff.1 hc
      obtain ⟨x, rfl⟩ := Int.eq_ofNat_of_zero_le h0
      have hx : x ≤ Fp.tmost k := by omega
      rw [show ((x : Int)).toNat = x from rfl]
      clear h0 h1 hc E
      go_enter Try.func20, Try.ntmps20
      go_wp2_with (first | (go_at_call 44; refine (spec_l11Kind _ _).mono ?_; rintro e w' ⟨rfl, rfl⟩) | (go_at_call 46; refine (spec_l11Most _ _ hk).mono ?_; rintro e w1 ⟨rfl, b1⟩) | (go_at_call 45; refine (spec_l6In _ _ _ _).mono ?_; rintro e w' ⟨rfl, rfl⟩) | (go_at_call 47; refine (spec_l11Make _ _ _ hk hx).mono ?_; rintro e w2 ⟨a2, n2, c2, rfl, o2, b2⟩))
      go_ret2
      exact ⟨_, _, _, rfl, o2.more b1.size (Nat.le_refl _), b1.trans (b2.mono b1.size)⟩
theorem spec_l11Vec (k : Int) (a : Option Addr) (n cap : Nat) (zs : List Int) (w : World) (h : Sl w a n zs) (hm : n ≤ 1048576) :
    Calls Try.prog 29 #[.int .i64 k, .slice a n cap] w fun e w' => e = .returned (.bool (Fp.tvec k zs)) ∧ w = w' := by
  have H := Lib.hid h
  have L := Lib.hid h.len
  clear h
  cases hk : Fp.tk k
  · rw [Fp.tvec_nk hk]
    go_enter Try.func29, Try.ntmps29
    go_wp2_with (go_at_call 44; (with_reducible refine (spec_l11Kind _ _).mono ?_); rintro e w' ⟨rfl, rfl⟩)
    go_ret
    exact ⟨rfl, rfl⟩
  cases hs : Fp.sok zs
  · rw [Fp.tvec_ns hs]
    go_enter Try.func29, Try.ntmps29
    go_wp2_with (first | (go_at_call 44; (with_reducible refine (spec_l11Kind _ _).mono ?_); rintro e w' ⟨rfl, rfl⟩) | (go_at_call 18; refine (spec_ShareOk _ _ _ _ _ H.out hm).mono ?_; rintro e w' ⟨rfl, rfl⟩))
    go_ret
    exact ⟨rfl, rfl⟩
  by_cases hn : n = Fp.tlen k
  · have E : Fp.tvec k zs = true := Fp.tvec_iff.2 ⟨hk, hs, by rw [L.out]; exact hn⟩
    rw [E]
    have hb : ((n : Int) == (Fp.tlen k : Int)) = true := beqT (by omega)
    clear E hn
    go_enter Try.func29, Try.ntmps29
    go_wp2_with (first | (go_at_call 44; (with_reducible refine (spec_l11Kind _ _).mono ?_); rintro e w' ⟨rfl, rfl⟩) | (go_at_call 18; refine (spec_ShareOk _ _ _ _ _ H.out hm).mono ?_; rintro e w' ⟨rfl, rfl⟩) | (go_at_call 50; (with_reducible refine (spec_TypeLen _ _).mono ?_); rintro e w' ⟨rfl, rfl⟩))
    go_ret
    exact ⟨rfl, rfl⟩
  · have E : Fp.tvec k zs = false := Fp.tvec_nl (by rw [L.out]; exact hn)
    rw [E]
    have hb : ((n : Int) == (Fp.tlen k : Int)) = false := beqF (by omega)
    clear E hn
    go_enter Try.func29, Try.ntmps29
    go_wp2_with (first | (go_at_call 44; (with_reducible refine (spec_l11Kind _ _).mono ?_); rintro e w' ⟨rfl, rfl⟩) | (go_at_call 18; refine (spec_ShareOk _ _ _ _ _ H.out hm).mono ?_; rintro e w' ⟨rfl, rfl⟩) | (go_at_call 50; (with_reducible refine (spec_TypeLen _ _).mono ?_); rintro e w' ⟨rfl, rfl⟩))
    go_ret
    exact ⟨rfl, rfl⟩
theorem sm_bits {zs : List Int} {j : Nat} (h : ∀ i, i < j → zs.getD i 0 = 0 ∨ zs.getD i 0 = 1) : 0 ≤ Fp.sm zs j ∧ Fp.sm zs j ≤ (j : Int) := by
  induction j with
  | zero => exact ⟨Int.le_refl 0, Int.le_refl 0⟩
  | succ j ih =>
    have := ih fun i hi => h i (by omega)
    have := h j (by omega)
    rw [Fp.sm]; omega
theorem spec_l11Ok (k : Int) (a : Option Addr) (n cap : Nat) (zs : List Int) (w : World) (h : Sl w a n zs) (hv : Fp.tvec k zs = true) :
    Calls Try.prog 42 #[.int .i64 k, .slice a n cap] w fun e w' => e = .returned (.bool (Fp.tok k zs)) ∧ w = w' := by
  have H := Lib.hid h
  have L := h.len
  clear h
  obtain ⟨hk, hs, hl⟩ := Fp.tvec_iff.1 hv
  have HN := Lib.hid (show n = Fp.tlen k by omega)
  have n4 : n ≤ 4 := by rw [HN.out]; exact Fp.tlen_le k
  have HL := Lib.hid hl
  clear hl L hv
  go_enter Try.func42, Try.ntmps42
  go_wp2
  go_loop [5, 6] (fun s i => ∃ (j : Nat) (u : Int), j ≤ n ∧ Hid (∀ i, i < j → zs.getD i 0 = 0 ∨ zs.getD i 0 = 1) ∧ Hid (u = Fp.sm zs j) ∧ s = .int .i64 u ∧ i = .int .i64 j) (fun _ i => n - (intOf i).toNat)
  case atStart => exact ⟨0, 0, by omega, fun i hi => by omega, rfl, rfl, rfl⟩
  case round =>
    obtain ⟨j, u, hj, T, U, rfl, rfl⟩ := hrel
    have bd := sm_bits T.out
    rw [← U.out] at bd
    by_cases hlt : j < n
    · obtain ⟨b, off, z, rfl, hc, hz⟩ := H.out.get hlt
      have hzo := (Fp.ok_iff z).1 (by rw [hz.out]; exact Fp.sok_get hs j)
      by_cases h1 : 1 < z
      · have E0 : Fp.tok k zs = false := Fp.tok_f (by
          rintro ⟨-, -, hb, -⟩
          have := hb j (by rw [← HN.out]; exact hlt)
          rw [← hz.out] at this
          omega)
        have E := Lib.hid E0
        have d1 : decide (1 < z) = true := decide_eq_true h1
        clear E0 h1
        go_wp2
        go_ret
        exact ⟨by rw [E.out]; rfl, rfl⟩
      · have d1 : decide (1 < z) = false := decide_eq_false h1
        have T2 : Hid (∀ i, i < j + 1 → zs.getD i 0 = 0 ∨ zs.getD i 0 = 1) := by
          intro i hi
          by_cases e : i = j
          · subst e; rw [← hz.out]; omega
          · exact T.out i (by omega)
        have U2 : Hid (u + z = Fp.sm zs (j + 1)) := by show _ = _; rw [Fp.sm, ← U.out, ← hz.out]
        clear h1
        go_wp2
        go_round
        case rel => exact ⟨j + 1, _, by omega, T2.out, U2.out, rfl, by go_num⟩
        case measure => simp [intOf]; omega
    · have e : j = n := by omega
      subst e
      by_cases h2 : k = 2
      · subst h2
        by_cases hu : u = 1
        · have E := Lib.hid (Fp.bits_tok hk HL.out ⟨by rw [← HN.out]; exact T.out, fun _ => by rw [← HN.out, ← U.out]; exact hu⟩)
          subst hu
          go_wp2
          go_ret
          exact ⟨by rw [E.out]; rfl, rfl⟩
        · have E := Lib.hid (Fp.tok_f (k := 2) (v := zs) (by
            rintro ⟨-, -, -, hb⟩
            have := hb rfl
            rw [← HN.out, ← U.out] at this
            exact hu this))
          have ub := beqF hu
          clear hu
          go_wp2
          go_ret
          exact ⟨by rw [E.out]; rfl, rfl⟩
      · have E := Lib.hid (Fp.bits_tok hk HL.out ⟨by rw [← HN.out]; exact T.out, fun e => absurd e h2⟩)
        have kb : (k != 2) = true := by rw [bne, beqF h2]; rfl
        clear h2
        go_wp2
        go_ret
        exact ⟨by rw [E.out]; rfl, rfl⟩
theorem spec_TypeOk (k : Int) (a : Option Addr) (n cap : Nat) (zs : List Int) (w : World) (h : Sl w a n zs) (hm : n ≤ 1048576) :
    Calls Try.prog 16 #[.int .i64 k, .slice a n cap] w fun e w' => e = .returned (.bool (Fp.tok k zs)) ∧ w = w' := by
  have H := Lib.hid h
  clear h
  cases hv : Fp.tvec k zs
  · rw [Fp.tok_nvec hv]
    go_enter Try.func16, Try.ntmps16
    go_wp2_with (go_at_call 29; refine (spec_l11Vec _ _ _ _ _ _ H.out hm).mono ?_; rintro e w' ⟨rfl, rfl⟩)
    go_ret
    exact ⟨rfl, rfl⟩
  · go_enter Try.func16, Try.ntmps16
    go_wp2_with (first | (go_at_call 29; refine (spec_l11Vec _ _ _ _ _ _ H.out hm).mono ?_; rintro e w' ⟨rfl, rfl⟩) | (go_at_call 42; refine (spec_l11Ok _ _ _ _ _ _ H.out hv).mono ?_; rintro e w' ⟨rfl, rfl⟩))
    go_ret
    exact ⟨rfl, rfl⟩
theorem spec_l11Check (k : Int) (a : Option Addr) (n cap : Nat) (zs : List Int) (x : Int) (w : World) (h : Sl w a n zs) (hv : Fp.tvec k zs = true) (hx : Fp.ok x = true) :
    Calls Try.prog 31 #[.int .i64 k, .slice a n cap, .int .i64 x] w (Drew (.int .i64 (Fp.tchk k zs x)) w) := by
  have H := Lib.hid h
  have L := h.len
  clear h
  rw [Fp.tchk_eq hv hx, L]
  obtain ⟨hk, hs, hl⟩ := Fp.tvec_iff.1 hv
  have n4 : n ≤ 4 := by rw [← L, hl]; exact Fp.tlen_le k
  have HL := Lib.hid L
  clear hl L hv
  go_enter Try.func31, Try.ntmps31
  go_wp2
  go_loopw [7, 8, 9, 10] (fun t p s i wr => ∃ (j m : Nat) (tv pv sv : Int), j ≤ n ∧ Hid (tv = Fp.tt zs x j) ∧ Hid (pv = Fp.pw x j) ∧ Hid (sv = Fp.sm zs j) ∧ t = .int .i64 tv ∧ p = .int .i64 pv ∧ s = .int .i64 sv ∧ i = .int .i64 j ∧ Hid (wr = w.drewN m)) (fun _ _ _ i _ => n - (intOf i).toNat)
  case atStart => exact ⟨0, 0, 0, 1, 0, by omega, rfl, rfl, rfl, rfl, rfl, rfl, rfl, rfl⟩
  case round =>
    obtain ⟨j, m, tv, pv, sv, hj, TV, PV, SV, rfl, rfl, rfl, rfl, hw⟩ := hrel
    have to : Fp.ok tv = true := by rw [TV.out]; exact Fp.tt_ok _ _ _
    have po : Fp.ok pv = true := by rw [PV.out]; exact Fp.pw_ok _ _
    obtain ⟨t0, t1⟩ := (Fp.ok_iff _).1 to
    have sb := Fp.sm_bd hs j
    rw [← SV.out] at sb
    obtain ⟨s0, s1⟩ := sb
    obtain ⟨q2, q3⟩ := Fp.mul_bd po hx
    by_cases hlt : j < n
    · have S := H.out.drewN m
      rw [← hw.out] at S
      obtain ⟨b, off, z, rfl, hc, hz⟩ := S.get hlt
      clear S
      have hzo : Fp.ok z = true := by rw [hz.out]; exact Fp.sok_get hs j
      obtain ⟨z0, z1⟩ := (Fp.ok_iff _).1 hzo
      obtain ⟨p0, p1⟩ := Fp.mul_bd hzo (Fp.dif_ok z 1)
      obtain ⟨q0, q1⟩ := Fp.mul_bd po (Fp.emod_ok (z * Fp.dif z 1))
      have E1 : Hid ((tv + pv * (z * Fp.dif z 1 % 31)) % 31 = Fp.tt zs x (j + 1)) := by
        show _ = _
        rw [Fp.tt, ← TV.out, ← PV.out, ← hz.out, Fp.fa, Fp.dif_eq hzo rfl]
      have E2 : Hid (pv * x % 31 = Fp.pw x (j + 1)) := by show _ = _; rw [Fp.pw, ← PV.out]
      have E3 : Hid (sv + z = Fp.sm zs (j + 1)) := by show _ = _; rw [Fp.sm, ← SV.out, ← hz.out]
      go_wp2
      go_quiet (first | (go_at_call 51; exact Calls.quiet_of_same (quiet_l (spec_FieldDif _ _ _))))
      go_wp2
      go_roundw
      case rel => exact ⟨j + 1, m + nq, _, _, _, by omega, E1.out, E2.out, E3.out, rfl, rfl, rfl, by go_num, by show _ = _; rw [hw.out, World.drewN_drewN]⟩
      case measure => simp [intOf]; omega
    · have e : j = n := by omega
      subst e
      by_cases h2 : k = 2
      · subst h2
        obtain ⟨q0, q1⟩ := Fp.mul_bd po (Fp.dif_ok (sv % 31) 1)
        have E : Hid ((tv + pv * Fp.dif (sv % 31) 1) % 31 = (Fp.tt zs x j + Fp.pw x j * Fp.sur 2 zs) % 31) := by
          show _ = _
          rw [← TV.out, ← PV.out, Fp.sur, if_pos rfl, Fp.dif_eq (Fp.emod_ok sv) rfl, SV.out, Fp.sr_sm, HL.out]
        go_wp2_with (go_at_call 51; (with_reducible refine (spec_FieldDif _ _ _).mono ?_); rintro e w' ⟨rfl, rfl⟩)
        go_ret
        exact ⟨by rw [← E.out]; rfl, m, hw.out⟩
      · have kb := beqF h2
        have E : Hid (tv = (Fp.tt zs x j + Fp.pw x j * Fp.sur k zs) % 31) := by
          show _ = _
          rw [← TV.out, Fp.sur, if_neg h2]; omega
        clear h2
        go_wp2
        go_ret
        exact ⟨by rw [← E.out]; rfl, m, hw.out⟩
theorem spec_TypeCheck (k : Int) (a : Option Addr) (n cap : Nat) (zs : List Int) (x : Int) (w : World) (h : Sl w a n zs) (hm : n ≤ 1048576) :
    Calls Try.prog 11 #[.int .i64 k, .slice a n cap, .int .i64 x] w (Drew (.int .i64 (Fp.tchk k zs x)) w) := by
  have H := Lib.hid h
  clear h
  cases hv : Fp.tvec k zs
  · rw [Fp.tchk_nv hv]
    go_enter Try.func11, Try.ntmps11
    go_wp2_with (go_at_call 29; refine (spec_l11Vec _ _ _ _ _ _ H.out hm).mono ?_; rintro e w' ⟨rfl, rfl⟩)
    go_ret
    exact ⟨rfl, 0, rfl⟩
  · cases hx : Fp.ok x
    · rw [Fp.tchk_nd hx]
      go_enter Try.func11, Try.ntmps11
      go_wp2_with (first | (go_at_call 29; refine (spec_l11Vec _ _ _ _ _ _ H.out hm).mono ?_; rintro e w' ⟨rfl, rfl⟩) | (go_at_call 30; (with_reducible refine (spec_FieldOk _ _).mono ?_); rintro e w' ⟨rfl, rfl⟩))
      go_ret
      exact ⟨rfl, 0, rfl⟩
    · go_enter Try.func11, Try.ntmps11
      go_wp2_with (first | (go_at_call 29; refine (spec_l11Vec _ _ _ _ _ _ H.out hm).mono ?_; rintro e w' ⟨rfl, rfl⟩) | (go_at_call 30; (with_reducible refine (spec_FieldOk _ _).mono ?_); rintro e w' ⟨rfl, rfl⟩) | (go_at_call 31; refine (spec_l11Check _ _ _ _ _ _ _ H.out hv hx).mono ?_; rintro e w1 ⟨rfl, m, rfl⟩))
      go_ret
      exact ⟨rfl, m, rfl⟩
end Go.Proofs.Ytlfmginnffdicaa
