/-
  What the functions of chapter 33 return, of the program: contracts of their calls, for every argument.
-/
import Derived.Test.YtigeffgehckbpaaNoz
import Derived.Test.YtigeffgehckbpaaRand
import Derived.Test.YtigeffgehckbpaaLw
namespace Go.Proofs.Ytigeffgehckbpaa
open Go.RowKit
set_option linter.unusedVariables false
set_option linter.unusedSimpArgs false
set_option maxRecDepth 20000
theorem n31_desc : Try.prog.underlying 41 = some (.array 31 3) := by kernel_rfl
theorem n31_info : (Try.prog.info? 41).map (·.size) = some 31 := by kernel_rfl
def nzV : Array Value := #[.int .i64 0, .int .i64 0, .int .i64 0, .int .i64 0, .int .i64 0, .int .i64 0, .int .i64 0, .int .i64 0, .int .i64 0, .int .i64 0, .int .i64 0, .int .i64 1, .int .i64 1, .int .i64 1, .int .i64 1, .int .i64 1, .int .i64 1, .int .i64 1, .int .i64 (-1), .int .i64 (-1), .int .i64 (-1), .int .i64 (-1), .int .i64 (-1), .int .i64 (-1), .int .i64 (-1), .int .i64 2, .int .i64 2, .int .i64 2, .int .i64 (-2), .int .i64 (-2), .int .i64 (-2)]
def zeV : Array Value := #[.int .i64 0, .int .i64 0, .int .i64 0, .int .i64 0, .int .i64 0, .int .i64 0, .int .i64 0, .int .i64 0, .int .i64 0, .int .i64 0, .int .i64 0, .int .i64 0, .int .i64 0, .int .i64 0, .int .i64 0, .int .i64 0, .int .i64 0, .int .i64 0, .int .i64 0, .int .i64 0, .int .i64 0, .int .i64 0, .int .i64 0, .int .i64 0, .int .i64 0, .int .i64 0, .int .i64 0, .int .i64 0, .int .i64 0, .int .i64 0, .int .i64 0]
theorem nzV_is : nzV = (Fp.nzL.map (Value.int .i64)).toArray := rfl
theorem zeV_is : zeV = ((List.replicate 31 (0 : Int)).map (Value.int .i64)).toArray := rfl
theorem ze_there (w : World) (t : TypeId) : (w.alloc (.cells zeV t)).there w.heap.size 0 31 := by
  have := (own_boxed w.heap.size w t (List.replicate 31 (0 : Int)) (Nat.le_refl _) (by unfold maxLen; simp)).there
  rw [← zeV_is] at this
  simpa using this
theorem impl_noises (w : World) : Calls Try.prog 34 #[] w (Bel (.agg nzV) w) := by
  have NT : Hid ((w.alloc (.cells zeV 41)).there w.heap.size 0 nzV.size) := ze_there w 41
  have NJ : (Try.prog.info? 41).map (·.size) = some nzV.size := n31_info
  have NO : nzV.all (·.oneCell') = true := by rw [nzV_is]; exact map_one _
  have B1 : Hid (Below w.heap.size w (w.alloc (.cells zeV 41))) := (Below.refl _ _).alloc (Nat.le_refl _) _
  generalize hw : w.alloc (.cells zeV 41) = w1 at NT B1
  unfold zeV at hw
  go_enter Try.func34, Try.ntmps34
  go_wp2_with (first | (refine wpList_store_mid rfl 41 (.tmp 0) (.tmp 1) rfl w.heap.size 0 nzV rfl rfl NT.out NJ NO ?_))
  have NR : Hid ((w1.setCells w.heap.size 0 nzV.toList).rangeAt w.heap.size 0 nzV.toList) := World.rangeAt_setCells_same _ _ _ _ NT.out
  refine bodyPost_ret (v := .agg nzV.toList.toArray) (results_mid rfl _ _ w.heap.size nzV.toList _ rfl NR.out n31_desc rfl NJ) rfl ?_
  exact ⟨rfl, below_cells (Nat.le_refl _) _ _ B1.out⟩
theorem idx_noise : ∀ k : Nat, k < 31 → ∀ w : World, (Instr.index 41 (.agg nzV) (.int .i64 (k : Int))).run Try.prog w = .ok (.int .i64 (Fp.nzL.getD k 0)) w := by
  intro k hk w
  have h : (31 : Int) ≤ (k : Int) ↔ False := by simp; omega
  have e : nzV[k]? = some (.int .i64 (Fp.nzL.getD k 0)) := by
    rw [nzV_is]
    simp [List.getElem?_map, List.getD_eq_getElem?_getD, List.getElem?_eq_getElem (show k < Fp.nzL.length from hk)]
  simp [Instr.index, run_underlying n31_desc, asIntOf, go_sem, hk, e]
theorem impl_NoiseOf (n : Int) (w : World) : Calls Try.prog 14 #[.int .i64 n] w (Bel (.int .i64 (Fp.nz n)) w) := by
  cases h : Fp.ok n
  · rw [Fp.nz_no h]
    go_enter Try.func14, Try.ntmps14
    go_wp2_with (go_at_call 33; (with_reducible refine (impl_FieldOk _ _).mono ?_); rintro e w' ⟨rfl, rfl⟩)
    go_ret
    exact ⟨rfl, Below.refl _ _⟩
  · have ho := h
    rw [Fp.ok_iff] at ho
    obtain ⟨h0, h1⟩ := ho
    obtain ⟨k, rfl⟩ := Int.eq_ofNat_of_zero_le h0
    have hk : k < 31 := by omega
    rw [← Fp.nzL_get k hk]
    have ix := idx_noise k hk
    generalize Fp.nzL.getD k 0 = z at ix
    go_enter Try.func14, Try.ntmps14
    go_wp2_with (first | (go_at_call 33; (with_reducible refine (impl_FieldOk _ _).mono ?_); rintro e w' ⟨rfl, rfl⟩) | (go_at_call 34; refine (impl_noises _).mono ?_; rintro e w1 ⟨rfl, b1⟩))
    go_ret
    exact ⟨rfl, b1⟩
theorem impl_NoiseMany (v : Int) (w : World) : Calls Try.prog 16 #[.int .i64 v] w (Bel (.int .i64 (Fp.nmany v : Int)) w) := by
  go_enter Try.func16, Try.ntmps16
  go_wp2_with fail
  refine (impl_noises _).mono ?_
  rintro e w1 ⟨rfl, b1⟩
  have B := Lib.hid b1
  clear b1
  go_wp2
  go_loop [3, 7] (fun m i => ∃ k : Nat, k ≤ 31 ∧ m = .int .i64 (Fp.nzm v k : Int) ∧ i = .int .i64 (k : Int)) (fun _ i => 31 - (intOf i).toNat)
  case atStart => exact ⟨0, by omega, rfl, rfl⟩
  case round =>
    obtain ⟨k, hk, rfl, rfl⟩ := hrel
    have ml := Fp.nzm_le v k
    by_cases hlt : k < 31
    · have ix := idx_noise k hlt
      rw [Fp.nzL_get k hlt] at ix
      by_cases hz : Fp.nz (k : Int) = v
      · have hb : (Fp.nz (k : Int) == v) = true := beqT hz
        have E := Lib.hid (Fp.nzm_yes hz)
        clear hz
        go_wp2
        go_round
        case rel => exact ⟨k + 1, by omega, by rw [E.out]; go_num, by go_num⟩
        case measure => simp [intOf]; omega
      · have hb : (Fp.nz (k : Int) == v) = false := beqF hz
        have E := Lib.hid (Fp.nzm_no hz)
        clear hz
        go_wp2
        go_round
        case rel => exact ⟨k + 1, by omega, by rw [E.out], by go_num⟩
        case measure => simp [intOf]; omega
    · have e : k = 31 := by omega
      subst e
      go_wp2
      go_ret
      exact ⟨rfl, B.out⟩
theorem impl_NoiseBoth (a b i : Int) (w : World) : Calls Try.prog 18 #[.int .i64 a, .int .i64 b, .int .i64 i] w (Bel (.int .i64 (Fp.nb a b i)) w) := by
  go_enter Try.func18, Try.ntmps18
  go_wp2_with (first | (go_at_call 28; (with_reducible refine (impl_RandBoth _ _ _ _).mono ?_); rintro e w' ⟨rfl, rfl⟩) | (go_at_call 14; refine (impl_NoiseOf _ _).mono ?_; rintro e w1 ⟨rfl, b1⟩))
  go_ret
  exact ⟨rfl, b1⟩
theorem impl_countsOk (a : Option Addr) (n cap : Nat) (zs : List Int) (w : World) (h : Sl w a n zs) :
    Calls Try.prog 39 #[.slice a n cap] w fun e w' => e = .returned (.bool (Fp.cok zs)) ∧ w = w' := by
  have H := Lib.hid h
  have L := Lib.hid h.len
  clear h
  by_cases h9 : 20 < n
  · have E0 : Fp.cok zs = false := Fp.cok_long (by rw [L.out]; exact h9)
    rw [E0]; clear E0
    go_enter Try.func39, Try.ntmps39
    go_wp2
    go_ret
    exact ⟨rfl, rfl⟩
  · go_enter Try.func39, Try.ntmps39
    go_wp2
    go_loop [10] (fun i => ∃ k : Nat, k ≤ n ∧ Hid (∀ j, j < k → Fp.inC (zs.getD j 0) = true) ∧ i = .int .i64 k) (fun i => n - (intOf i).toNat)
    case atStart => exact ⟨0, by omega, fun j hj => by omega, rfl⟩
    case round =>
      obtain ⟨k, hk, T, rfl⟩ := hrel
      by_cases hlt : k < n
      · obtain ⟨b, off, z, rfl, hc, hz⟩ := H.out.get hlt
        cases hf : Fp.inC z
        · have E := Lib.hid (Fp.cok_bad (k := k) (by rw [L.out]; exact hlt) (by rw [← hz.out]; exact hf))
          by_cases h0 : z < 0
          · clear hf
            go_wp2
            go_ret
            exact ⟨by rw [E.out]; rfl, rfl⟩
          · have h1 : 9999 < z := by
              rcases Int.lt_or_le 9999 z with h | h
              · exact h
              · have : Fp.inC z = true := (Fp.inC_iff z).2 ⟨by omega, h⟩
                rw [this] at hf; cases hf
            clear hf
            go_wp2
            go_ret
            exact ⟨by rw [E.out]; rfl, rfl⟩
        · obtain ⟨z0, z1⟩ := (Fp.inC_iff z).1 hf
          have T2 : Hid (∀ j, j < k + 1 → Fp.inC (zs.getD j 0) = true) := fun j hj => by
            by_cases e : j = k
            · subst e; rw [← hz.out]; exact hf
            · exact T.out j (by omega)
          clear hf T
          go_wp2
          go_round
          case rel => exact ⟨k + 1, by omega, T2.out, by go_num⟩
          case measure => simp [intOf]; omega
      · have e : k = n := by omega
        have E := Lib.hid (Fp.cok_all (l := zs) (by rw [L.out]; omega) (fun j hj => T.out j (by rw [L.out] at hj; omega)))
        clear T
        go_wp2
        go_ret
        exact ⟨by rw [E.out]; rfl, rfl⟩
theorem nadd_done {lo hi : Nat} {w : World} {p : Option Addr} {n cap : Nat} {zs : List Int} {a b : Int} (hl : zs.length = n) (h : Own lo hi w p n cap (fill (List.replicate n 0) (fun j => zs.getD j 0 + Fp.nb a b (j : Int)) n)) : Own lo hi w p n cap (Fp.naddTo zs a b zs.length) := by
  have e := fill_all (zs := List.replicate n (0 : Int)) (ys := Fp.naddTo zs a b zs.length) (f := fun j => zs.getD j 0 + Fp.nb a b (j : Int)) (by rw [Fp.naddTo_len, hl]; simp) (fun i hi => by rw [Fp.naddTo_get (by simp at hi; omega)])
  rw [List.length_replicate] at e
  rwa [e] at h
theorem impl_NoiseAdd (p : Option Addr) (n cap : Nat) (zs : List Int) (a b : Int) (w : World) (h : Sl w p n zs) :
    Calls Try.prog 21 #[.slice p n cap, .int .i64 a, .int .i64 b] w (NewIntsB (Fp.nadd zs a b) (Fp.naB zs a b) w) := by
  have H := Lib.hid h
  have L := Lib.hid h.len
  clear h
  cases ha : Fp.sok a
  · rw [Fp.nadd_no (Fp.naB_ns ha), Fp.naB_ns ha]
    go_enter Try.func21, Try.ntmps21
    go_wp2_with (first | (go_at_call 38; (with_reducible refine (impl_seedOk _ _).mono ?_); rintro e w' ⟨rfl, rfl⟩))
    go_ret2
    exact ⟨_, _, _, rfl, Own.nil _ _ _ _ _ (by unfold maxLen; omega), Below.refl _ _⟩
  cases hb : Fp.sok b
  · rw [Fp.nadd_no (Fp.naB_nt hb), Fp.naB_nt hb]
    go_enter Try.func21, Try.ntmps21
    go_wp2_with (first | (go_at_call 38; (with_reducible refine (impl_seedOk _ _).mono ?_); rintro e w' ⟨rfl, rfl⟩))
    go_ret2
    exact ⟨_, _, _, rfl, Own.nil _ _ _ _ _ (by unfold maxLen; omega), Below.refl _ _⟩
  have CK := fun W h => impl_countsOk p n cap zs W h
  cases hc : Fp.cok zs
  · rw [Fp.nadd_no (Fp.naB_nc hc), Fp.naB_nc hc]
    rw [hc] at CK
    go_enter Try.func21, Try.ntmps21
    go_wp2_with (first | (go_at_call 38; (with_reducible refine (impl_seedOk _ _).mono ?_); rintro e w' ⟨rfl, rfl⟩) | (go_at_call 39; (with_reducible refine (CK _ H.out).mono ?_); rintro e w' ⟨rfl, rfl⟩))
    go_ret2
    exact ⟨_, _, _, rfl, Own.nil _ _ _ _ _ (by unfold maxLen; omega), Below.refl _ _⟩
  rw [hc] at CK
  have hy := Fp.naB_yes ha hb hc
  rw [Fp.nadd_yes hy, hy]
  have n20 : n ≤ 20 := by have := Fp.cok_len hc; rw [L.out] at this; exact this
  have HC := Lib.hid hc
  clear hc hy
  obtain ⟨i0, hi0, hz0, hz1, hz2⟩ := info_parts int_info
  have I := Lib.hid (show i0.bytes * n ≤ 281474976710656 by rw [hz2]; omega)
  have M : n ≤ maxLen := by unfold maxLen; omega
  go_enter Try.func21, Try.ntmps21
  go_wp2_with (first | (go_at_call 38; (with_reducible refine (impl_seedOk _ _).mono ?_); rintro e w' ⟨rfl, rfl⟩) | (go_at_call 39; (with_reducible refine (CK _ H.out).mono ?_); rintro e w' ⟨rfl, rfl⟩) | ((with_reducible refine wpList_make_full _ rfl (.tmp 25) (.tmp 25) 26 rfl w.heap.size 3 i0 _ 1 Try.underlying26 hi0 hz0 hz1 .i64 .i64 _ _ n rfl rfl rfl rfl I.out M (Nat.le_refl _) ?_); intro w1 own grow))
  have O := Lib.hid (Own.of_row (own_made own))
  have B := Lib.hid ((Below.refl w.heap.size w).grown grow (Nat.le_refl _) (by simp))
  clear own grow CK
  go_loopw [29] (fun i wr => ∃ k : Nat, k ≤ n ∧ i = .int .i64 k ∧ Hid (Own w.heap.size wr.heap.size wr (some ⟨w.heap.size, 0, none⟩) n n (fill (List.replicate n 0) (fun j => zs.getD j 0 + Fp.nb a b (j : Int)) k)) ∧ Hid (Below w.heap.size w wr)) (fun i _ => n - (intOf i).toNat)
  case atStart => exact ⟨0, by omega, rfl, O.out, B.out⟩
  case round =>
    clear O B
    obtain ⟨k, hk, rfl, hO, hB⟩ := hrel
    by_cases hlt : k < n
    · obtain ⟨q, off, z, rfl, hc, hz⟩ := (H.out.below hB.out).get hlt
      have zb := (Fp.inC_iff _).1 (Fp.cok_get HC.out (show k < zs.length by rw [L.out]; exact hlt))
      rw [← hz.out] at zb
      have nbb := Fp.nb_bd a b (k : Int)
      obtain ⟨zb0, zb1⟩ := zb
      obtain ⟨nb0, nb1⟩ := nbb
      go_wp2_with fail
      refine (impl_NoiseBoth _ _ _ _).mono ?_
      rintro e w2 ⟨rfl, b2⟩
      have O1 := Lib.hid (hO.out.below b2).lt
      have B1 := Lib.hid (hB.out.trans (b2.mono hB.out.size))
      clear b2 hc
      obtain ⟨hlo, hhi, z', hc', hf', -⟩ := O1.out.get0 hlt
      have O2 := Lib.hid (O1.out.set0 hlt (z + Fp.nb a b (k : Int)))
      have B2 := Lib.hid (B1.out.setCell (p := ⟨w.heap.size, k, none⟩) (Nat.le_refl _) (.int .i64 (z + Fp.nb a b (k : Int))))
      go_wp2
      go_roundw
      case rel => exact ⟨k + 1, by omega, by go_num, by show Own _ _ _ _ _ _ _; have := O2.out; rw [hz.out] at this; simpa [fill, World.setCell, hz.out] using this, B2.out⟩
      case measure => simp [intOf]; omega
    · have e : k = n := by omega
      subst e
      go_wp2
      go_ret2
      exact ⟨_, _, _, rfl, nadd_done L.out hO.out, hB.out⟩
end Go.Proofs.Ytigeffgehckbpaa
