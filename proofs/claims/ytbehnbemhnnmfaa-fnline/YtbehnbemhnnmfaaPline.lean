/-
  Lagrange's factors: the program's PolyLine and the model's.
-/
import Derived.Test.YtbehnbemhnnmfaaPoly
namespace Go.Proofs.Ytbehnbemhnnmfaa
open Go.RowKit
set_option linter.unusedVariables false
set_option linter.unusedSimpArgs false
/-- What PolyLine answers. -/
def lineOf (many x : Int) : List Int := if inB many 0 9 && Fp.ok x then Fp.lagL many.toNat x else []
theorem lineOf_no {many x : Int} (h : inB many 0 9 = false) : lineOf many x = [] := by simp [lineOf, h]
theorem lineOf_nx {many x : Int} (h : Fp.ok x = false) : lineOf many x = [] := by simp [lineOf, h]
theorem lineOf_yes {x : Int} {n : Nat} (h : n ≤ 9) (hx : Fp.ok x = true) : lineOf (n : Int) x = Fp.lagL n x := by
  have : inB (n : Int) 0 9 = true := by simp [inB]; omega
  simp [lineOf, this, hx]
theorem lineOf_len (many x : Int) : (lineOf many x).length ≤ 9 := by
  unfold lineOf
  split
  · rename_i h
    simp [inB] at h
    simp [Fp.lagL]; omega
  · simp
theorem inB_iff {n lo hi : Int} : inB n lo hi = true ↔ lo ≤ n ∧ n ≤ hi := by simp [inB]
set_option maxHeartbeats 400000 in
theorem impl_PolyLine (many x : Int) (w : World) : Calls Try.prog 35 #[.int .i64 many, .int .i64 x] w (NewInts (lineOf many x) w) := by
  cases hm : inB many 0 9
  · rw [lineOf_no hm]
    by_cases h0 : many < 0
    · have hd : decide (many < 0) = true := by simpa using h0
      go_enter Try.func35, Try.ntmps35
      go_wp2
      go_ret
      exact ⟨_, _, _, rfl, Own.nil _ _ _ _ _ (by unfold maxLen; omega), Below.refl _ _⟩
    · have hd : decide (many < 0) = false := by simpa using h0
      have h9 : 9 < many := by
        by_cases h : 9 < many
        · exact h
        · have : inB many 0 9 = true := inB_iff.2 ⟨by omega, by omega⟩
          rw [this] at hm; cases hm
      have h9d : decide (9 < many) = true := by simpa using h9
      go_enter Try.func35, Try.ntmps35
      go_wp2
      go_ret
      exact ⟨_, _, _, rfl, Own.nil _ _ _ _ _ (by unfold maxLen; omega), Below.refl _ _⟩
  · obtain ⟨m0, m9⟩ := inB_iff.1 hm
    obtain ⟨n, rfl⟩ := Int.eq_ofNat_of_zero_le m0
    have n9 : n ≤ 9 := by omega
    have hd0 : decide ((n : Int) < 0) = false := by simp
    have hd9 : decide (9 < (n : Int)) = false := by simp; omega
    clear m0 m9
    cases hx : Fp.ok x
    · rw [lineOf_nx hx]
      go_enter Try.func35, Try.ntmps35
      go_wp2_with (go_at_call 39; (with_reducible refine (impl_FieldOk _ _).mono ?_); rintro e w' ⟨rfl, rfl⟩)
      go_ret
      exact ⟨_, _, _, rfl, Own.nil _ _ _ _ _ (by unfold maxLen; omega), Below.refl _ _⟩
    · rw [lineOf_yes n9 hx]
      go_enter Try.func35, Try.ntmps35
      go_wp2_with (go_at_call 39; (with_reducible refine (impl_FieldOk _ _).mono ?_); rintro e w' ⟨rfl, rfl⟩)
      go_loopw [19] (fun i wr => ∃ k : Nat, k ≤ n ∧ i = .int .i64 k ∧ Hid (Own w.heap.size wr.heap.size wr (some ⟨w.heap.size, 0, none⟩) 9 9 (fill (List.replicate 9 0) (fun j => Fp.lagTo x j n) k)) ∧ Hid (Below w.heap.size w wr)) (fun i _ => n - (intOf i).toNat)
      case atStart => exact ⟨0, by omega, rfl, (own_nine _ w _ (Nat.le_refl _)).lt, (Below.refl _ _).alloc (Nat.le_refl _) _⟩
      case round =>
        obtain ⟨k, hk, rfl, hO, hB⟩ := hrel
        by_cases hlt : k < n
        · obtain ⟨hlo, hhi, z', hc', hf', -⟩ := hO.out.get0 (show k < 9 by omega)
          have O2 := Lib.hid (hO.out.set0 (show k < 9 by omega) (Fp.lagTo x k n))
          have B2 := Lib.hid (hB.out.setCell (p := ⟨w.heap.size, k, none⟩) (Nat.le_refl _) (.int .i64 (Fp.lagTo x k n)))
          go_wp2_with (go_at_call 51; (with_reducible refine (impl_weight k n x _ (by omega) (by omega) hx).mono ?_); rintro e w' ⟨rfl, rfl⟩)
          go_roundw
          case rel => exact ⟨k + 1, by omega, by go_num, by show Own _ _ _ _ _ _ _; have := O2.out; simpa [fill, World.setCell] using this, B2.out⟩
          case measure => simp [intOf]; omega
        · have e : k = n := by omega
          subst e
          have S := Lib.hid (hO.out.sl.cut n9)
          have E : Hid ((fill (List.replicate 9 0) (fun j => Fp.lagTo x j k) k).take k = Fp.lagL k x) := by
            show _ = _
            apply ext_getD
            · simp [fill_len, Fp.lagL]; omega
            · intro i hi
              simp [fill_len] at hi
              have : ((fill (List.replicate 9 0) (fun j => Fp.lagTo x j k) k).take k).getD i 0 = (fill (List.replicate 9 0) (fun j => Fp.lagTo x j k) k).getD i 0 := by
                simp [List.getD_eq_getElem?_getD, List.getElem?_take, show i < k by omega]
              rw [this, fill_get _ _ _ _ (by simp; omega), if_pos (by omega), Fp.lagL, Fp.getD_map _ (by omega)]
          rw [E.out] at S
          have hsl := nine_cut k n9 w.heap.size
          go_wp2_with fail
          refine (impl_numbers _ _ _ _ _ S.out (by omega)).mono ?_
          rintro e w2 ⟨a, m, cap, rfl, hO2, hB2⟩
          have O2 := Lib.hid hO2
          have B2 := Lib.hid (hB.out.trans (hB2.mono hB.out.size))
          have Z := Lib.hid hB.out.size
          clear hO2 hB2
          go_wp2
          go_ret
          exact ⟨_, _, _, rfl, O2.out.more Z.out (Nat.le_refl _), B2.out⟩
set_option maxHeartbeats 400000 in
theorem spec_l2Line (n : Nat) (x : Int) (w : World) (hn : n ≤ 31) (hx : Fp.ok x = true) : Calls Try.prog 50 #[.int .i64 (n : Int), .int .i64 x] w (NewInts (Fp.lagL n x) w) := by
  go_enter Try.func50, Try.ntmps50
  go_wp2
  go_loopw [5, 6] (fun v i wr => ∃ (k cap : Nat) (a : Option Addr), k ≤ n ∧ i = .int .i64 k ∧ v = .slice a k cap ∧ Hid (wr.ownsRow w.heap.size 3 1 (.slice a k cap) k (((List.range k).map fun j => Fp.lagTo x j n).map (Value.int .i64))) ∧ Hid (Below w.heap.size w wr)) (fun _ i _ => n - (intOf i).toNat)
  case atStart => exact ⟨0, 0, _, by omega, rfl, rfl, own_empty _ _ _ (Nat.le_refl _), (Below.refl _ _).alloc (Nat.le_refl _) _⟩
  case round =>
    obtain ⟨k, cap, a, hk, rfl, rfl, hO, hB⟩ := hrel
    by_cases hlt : k < n
    · have hk6 : k ≤ 1048576 := by omega
      have hsz := hB.out.size
      have hko := Fp.nat_ok (show k < 31 by omega)
      go_wp2
      go_loop [7, 8] (fun y j => ∃ (q : Nat) (u : Int), q ≤ n ∧ Fp.ok u = true ∧ u = Fp.lagTo x k q ∧ y = .int .i64 u ∧ j = .int .i64 q) (fun _ j => n - (intOf j).toNat)
      case atStart => exact ⟨0, 1, by omega, rfl, rfl, rfl, rfl⟩
      case round =>
        obtain ⟨q, u, hq, hu, eu, rfl, rfl⟩ := hrel
        have U := Lib.hid eu
        clear eu
        by_cases hq2 : q < n
        · by_cases e : q = k
          · subst e
            go_wp2
            go_round
            case rel => exact ⟨q + 1, u, by omega, hu, by rw [Fp.lagTo, if_pos rfl]; exact U.out, rfl, by go_num⟩
            case measure => simp [intOf]; omega
          · have eb : ((q : Int) != (k : Int)) = true := by simp; omega
            have e' := Lib.hid e
            clear e
            go_wp2_with (first | (go_at_call 57; (with_reducible refine (spec_FieldDif _ _ _).mono ?_); rintro e w' ⟨rfl, rfl⟩) | (go_at_call 56; (with_reducible refine (spec_FieldMul _ _ _).mono ?_); rintro e w' ⟨rfl, rfl⟩) | (go_at_call 58; (with_reducible refine (spec_l1Inv _ _ (Fp.dif_ok _ _)).mono ?_); rintro e w' ⟨rfl, rfl⟩))
            go_round
            case rel => exact ⟨q + 1, _, by omega, Fp.mul_ok _ _, by rw [Fp.lagTo, if_neg e'.out, ← U.out], rfl, by go_num⟩
            case measure => simp [intOf]; omega
        · have e : q = n := by omega
          subst e
          go_wp2_with (at_builtin; (refine wpList_push int_ty rfl (.tmp 33) (.tmp 35) rfl w.heap.size rfl rfl hO.out hk6 hsz ?_); intro g cap' w1 own1 bel1)
          have O1 := Lib.hid own1
          have B1 := Lib.hid (hB.out.trans bel1)
          clear own1 bel1
          go_wp2
          go_roundw
          case rel => exact ⟨k + 1, cap', _, by omega, by go_num, rfl, by rw [List.range_succ, List.map_append]; have := O1.out; rw [U.out] at this; exact this, B1.out⟩
          case measure => simp [intOf]; omega
    · have e : k = n := by omega
      subst e
      go_wp2
      go_ret
      exact ⟨_, _, _, rfl, Own.of_row hO.out, hB.out⟩
theorem spec_PolyLine (many x : Int) (w : World) : Calls Try.prog 34 #[.int .i64 many, .int .i64 x] w (NewInts (lineOf many x) w) := by
  cases hm : inB many 0 9
  · rw [lineOf_no hm]
    go_enter Try.func34, Try.ntmps34
    go_wp2_with (go_at_call 46; (with_reducible refine (spec_l6In _ _ _ _).mono ?_); rintro e w' ⟨rfl, rfl⟩)
    go_ret
    exact ⟨_, _, _, rfl, Own.nil _ _ _ _ _ (by unfold maxLen; omega), (Below.refl _ _).alloc (Nat.le_refl _) _⟩
  · obtain ⟨m0, m9⟩ := inB_iff.1 hm
    obtain ⟨n, rfl⟩ := Int.eq_ofNat_of_zero_le m0
    have n9 : n ≤ 9 := by omega
    clear m0 m9
    cases hx : Fp.ok x
    · rw [lineOf_nx hx]
      go_enter Try.func34, Try.ntmps34
      go_wp2_with (first | (go_at_call 46; (with_reducible refine (spec_l6In _ _ _ _).mono ?_); rintro e w' ⟨rfl, rfl⟩) | (go_at_call 22; (with_reducible refine (spec_FieldOk _ _).mono ?_); rintro e w' ⟨rfl, rfl⟩))
      go_ret
      exact ⟨_, _, _, rfl, Own.nil _ _ _ _ _ (by unfold maxLen; omega), (Below.refl _ _).alloc (Nat.le_refl _) _⟩
    · rw [lineOf_yes n9 hx]
      go_enter Try.func34, Try.ntmps34
      go_wp2_with (first | (go_at_call 46; (with_reducible refine (spec_l6In _ _ _ _).mono ?_); rintro e w' ⟨rfl, rfl⟩) | (go_at_call 22; (with_reducible refine (spec_FieldOk _ _).mono ?_); rintro e w' ⟨rfl, rfl⟩) | (go_at_call 50; (with_reducible refine (spec_l2Line n x _ (by omega) hx).mono ?_); rintro e w2 ⟨a, m, cap, rfl, hO2, hB2⟩; have O2 := Lib.hid hO2; have B2 := Lib.hid hB2; clear hO2 hB2))
      go_ret
      exact ⟨_, _, _, rfl, O2.out, B2.out⟩
end Go.Proofs.Ytbehnbemhnnmfaa
