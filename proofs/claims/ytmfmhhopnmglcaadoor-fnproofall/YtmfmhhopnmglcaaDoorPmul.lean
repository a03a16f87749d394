/-
  Products of polynomials: the program's PolyMul and the model's.
-/
import Derived.Test.YtmfmhhopnmglcaaDoorPoly
namespace Go.Proofs.YtmfmhhopnmglcaaDoor
open Go.RowKit
set_option linter.unusedVariables false
set_option linter.unusedSimpArgs false
set_option maxRecDepth 20000
theorem getD_all {p : List Int} (h : Fp.pok p = true) : ∀ i, Fp.ok (p.getD i 0) = true := Fp.pok_get h
/-- A row of products under way: it lies in block g. -/
def MulAt (lo g n : Nat) (xs ys : List Int) (i k : Nat) (w : World) : Prop := ∃ zs, Own lo w.heap.size w (some ⟨g, 0, none⟩) n n zs ∧ Fp.mulTo xs ys zs i k ∧ ∀ t, Fp.ok (zs.getD t 0) = true
theorem set_ok {zs : List Int} (h : ∀ t, Fp.ok (zs.getD t 0) = true) (k : Nat) {z : Int} (hz : Fp.ok z = true) : ∀ t, Fp.ok ((zs.set k z).getD t 0) = true := by
  intro t
  have := h t
  simp only [List.getD_eq_getElem?_getD, List.getElem?_set] at this ⊢
  split
  · split
    · exact hz
    · rfl
  · exact this
theorem rep_ok (n : Nat) : ∀ t, Fp.ok ((List.replicate n (0 : Int)).getD t 0) = true := by
  intro t
  simp only [List.getD_eq_getElem?_getD, List.getElem?_replicate]
  split <;> rfl
theorem MulAt.step {lo g n i k : Nat} {xs ys zs : List Int} {w : World} {x y z : Int} (h1 : Own lo w.heap.size w (some ⟨g, 0, none⟩) n n zs) (h2 : Fp.mulTo xs ys zs i k) (h3 : ∀ t, Fp.ok (zs.getD t 0) = true)
    (hx : x = xs.getD i 0) (hy : y = ys.getD k 0) (hz : z = zs.getD (i + k) 0) (hk : i + k < n) : MulAt lo g n xs ys i (k + 1) (w.setCell ⟨g, i + k, none⟩ (.int .i64 ((z + x * y) % 31))).drew := by
  refine ⟨_, Own.drew (by simpa [World.setCell] using h1.set0 hk ((z + x * y) % 31)), ?_, set_ok h3 _ (Fp.emod_ok _)⟩
  have := Fp.mulTo_step h2 (by rw [h1.len]; exact hk)
  rwa [← hx, ← hy, ← hz] at this
theorem MulAt.row {lo g n n' i : Nat} {xs ys : List Int} {w : World} (h : MulAt lo g n xs ys i n' w) (hl : ys.length = n') : MulAt lo g n xs ys (i + 1) 0 w := by
  obtain ⟨zs, h1, h2, h3⟩ := h
  subst hl
  exact ⟨zs, h1, Fp.mulTo_row h2, h3⟩
set_option maxHeartbeats 1000000 in
theorem spec_l2Mul (a a' : Option Addr) (n n' cap cap' : Nat) (xs ys : List Int) (w : World) (h : Sl w a n xs) (h' : Sl w a' n' ys) (hx : ∀ i, Fp.ok (xs.getD i 0) = true) (hy : ∀ i, Fp.ok (ys.getD i 0) = true) (hm : n ≤ 1000) (hm' : n' ≤ 1000) :
    Calls Tryd.prog 61 #[.slice a n cap, .slice a' n' cap'] w (NewInts (Fp.mulL xs ys) w) := by
  have H := Lib.hid h
  have H' := Lib.hid h'
  have X := Lib.hid hx
  have Y := Lib.hid hy
  have L := Lib.hid h.len
  have L' := Lib.hid h'.len
  clear h h' hx hy
  by_cases n0 : n = 0
  · subst n0
    have E := Lib.hid (show Fp.mulL xs ys = [] by rw [List.eq_nil_of_length_eq_zero L.out]; exact Fp.mulL_nil_left _)
    rw [E.out]
    go_enter Tryd.func61, Tryd.ntmps61
    go_wp2
    go_ret
    exact ⟨_, _, _, rfl, Own.nil _ _ _ _ _ (by unfold maxLen; omega), (Below.refl _ _).alloc (Nat.le_refl _) _⟩
  · have nb : ((n : Int) == 0) = false := by simp; omega
    by_cases n0' : n' = 0
    · subst n0'
      have E := Lib.hid (show Fp.mulL xs ys = [] by rw [List.eq_nil_of_length_eq_zero L'.out]; exact Fp.mulL_nil_right _)
      rw [E.out]
      go_enter Tryd.func61, Tryd.ntmps61
      go_wp2
      go_ret
      exact ⟨_, _, _, rfl, Own.nil _ _ _ _ _ (by unfold maxLen; omega), (Below.refl _ _).alloc (Nat.le_refl _) _⟩
    · have nb' : ((n' : Int) == 0) = false := by simp; omega
      have hn0 : 0 < n := by omega
      have hn0' : 0 < n' := by omega
      clear n0 n0'
      obtain ⟨m, em⟩ : ∃ m : Nat, (m : Int) = (n : Int) + (n' : Int) - 1 := ⟨n + n' - 1, by omega⟩
      have hmn : m < n + n' := by omega
      have hmn2 : n + n' ≤ m + 1 := by omega
      have EM := Lib.hid em
      clear em
      obtain ⟨i0, hi0, hz0, hz1, hz2⟩ := info_parts int_info
      have I := Lib.hid (show i0.bytes * m ≤ 281474976710656 by rw [hz2]; omega)
      have M : m ≤ maxLen := by unfold maxLen; omega
      go_enter Tryd.func61, Tryd.ntmps61
      go_wp2_with ((with_reducible refine wpList_make_full _ rfl (.tmp 22) (.tmp 22) 22 rfl w.heap.size 3 i0 _ 1 Tryd.underlying22 hi0 hz0 hz1 .i64 .i64 _ _ m rfl rfl EM.out.symm EM.out.symm I.out M (Nat.le_refl _) ?_); intro w1 own grow)
      have O : Hid (MulAt w.heap.size w.heap.size m xs ys 0 0 w1) := ⟨_, Own.of_row (own_made own), Fp.mulTo_start _ _ _, rep_ok _⟩
      have B := Lib.hid ((Below.refl w.heap.size w).grown grow (Nat.le_refl _) (by simp))
      clear own grow hi0 hz0 hz1 hz2 I
      go_loopw [6] (fun i wr => ∃ k : Nat, k ≤ n ∧ i = .int .i64 k ∧ Hid (MulAt w.heap.size w.heap.size m xs ys k 0 wr) ∧ Hid (Below w.heap.size w wr)) (fun i _ => n - (intOf i).toNat)
      case atStart => exact ⟨0, by omega, rfl, O.out, B.out⟩
      case round =>
        obtain ⟨i, hi, rfl, hO, hB⟩ := hrel
        by_cases hlt : i < n
        · go_wp2
          go_loopw [7] (fun j wr => ∃ k : Nat, k ≤ n' ∧ j = .int .i64 k ∧ Hid (MulAt w.heap.size w.heap.size m xs ys i k wr) ∧ Hid (Below w.heap.size w wr)) (fun j _ => n' - (intOf j).toNat)
          case atStart => exact ⟨0, by omega, rfl, hO.out, hB.out⟩
          case round =>
            clear hO hB
            obtain ⟨k, hk, rfl, hO, hB⟩ := hrel
            by_cases hkt : k < n'
            · obtain ⟨zs, hOw, hTo, hOk⟩ := hO.out
              have OW := Lib.hid hOw
              have TO := Lib.hid hTo
              have OK := Lib.hid hOk
              clear hOw hTo hOk
              obtain ⟨b, off, x, rfl, hc, hz⟩ := (H.out.below hB.out).get hlt
              obtain ⟨b', off', y, rfl, hc', hz'⟩ := (H'.out.below hB.out).get hkt
              obtain ⟨hlo, hhi, z, hcz, hf, hzz⟩ := OW.out.get0 (show i + k < m by omega)
              have hxo : Fp.ok x = true := by rw [hz.out]; exact X.out i
              have hyo : Fp.ok y = true := by rw [hz'.out]; exact Y.out k
              have hzo : Fp.ok z = true := by rw [hzz.out]; exact OK.out _
              obtain ⟨p0, p1⟩ := Fp.mul_bd hxo hyo
              obtain ⟨z0, z1⟩ := (Fp.ok_iff z).1 hzo
              have s0 : (0 : Int) ≤ (i : Int) + (k : Int) := by omega
              have s1 : (i : Int) + (k : Int) < (m : Int) := by omega
              have e0 : (0 : Int) ≤ (i : Int) := by omega
              have e1 : (i : Int) < (n : Int) := by omega
              have e2 : (0 : Int) ≤ (k : Int) := by omega
              have e3 : (k : Int) < (n' : Int) := by omega
              have f1 : IntKind.i64.wrap ((i : Int) + (k : Int)) = (i : Int) + (k : Int) := IntWalk.i64_in _ (by omega)
              have f2 : ((i : Int) + (k : Int)).toNat = i + k := by omega
              have f3 : IntKind.i64.wrap (x * y) = x * y := IntWalk.i64_in _ (by omega)
              have f4 : IntKind.i64.wrap (z + x * y) = z + x * y := IntWalk.i64_in _ (by omega)
              go_wp2
              go_still_tail 22, (by kernel_rfl)
              change wpList _ _ _ _ _ wr.drew
              clear f1 f2 f3 f4
              go_wp2
              go_roundw
              case rel => exact ⟨k + 1, by omega, by go_num, MulAt.step OW.out TO.out OK.out hz.out hz'.out hzz.out (by omega), (hB.out.setCell (Nat.le_refl _) _).drew⟩
              case measure => simp [intOf]; omega
            · have e : k = n' := by omega
              subst e
              have O2 := Lib.hid (hO.out.row L'.out)
              clear hO
              go_wp2
              go_roundw
              case rel => exact ⟨i + 1, by omega, by go_num, O2.out, hB.out⟩
              case measure => simp [intOf]; omega
        · have e : i = n := by omega
          subst e
          go_wp2
          go_ret
          obtain ⟨zs, h1, h2, h3⟩ := hO.out
          have l1 := L.out
          have l2 := L'.out
          have l3 := h1.len
          have := Fp.mulTo_end (a := xs) (b := ys) (zs := zs) (by rw [l1]; exact h2) (by omega) (by omega) (by omega)
          rw [List.take_of_length_le (by omega)] at this
          exact ⟨_, _, _, rfl, this ▸ h1, hB.out⟩
set_option maxHeartbeats 1000000 in
theorem impl_PolyMul_yes (a a' : Option Addr) (n n' cap cap' : Nat) (xs ys : List Int) (w : World) (h : Sl w a n xs) (h' : Sl w a' n' ys) (hx : Fp.pok xs = true) (hy : Fp.pok ys = true) (n0 : 0 < n) (n0' : 0 < n') (h9 : n + n' ≤ 10) :
    Calls Tryd.prog 69 #[.slice a n cap, .slice a' n' cap'] w (NewIntsB (Fp.mulL xs ys) true w) := by
  have H := Lib.hid h
  have H' := Lib.hid h'
  have L := Lib.hid h.len
  have L' := Lib.hid h'.len
  have X := Lib.hid (Fp.pok_get hx)
  have Y := Lib.hid (Fp.pok_get hy)
  clear h h'
  have nb : ((n : Int) == 0) = false := by simp; omega
  have nb' : ((n' : Int) == 0) = false := by simp; omega
  obtain ⟨m, em⟩ : ∃ m : Nat, (n : Int) + (n' : Int) - 1 = (m : Int) := ⟨n + n' - 1, by omega⟩
  have hm1 : m < n + n' := by omega
  have hm2 : n + n' ≤ m + 1 := by omega
  have EM := Lib.hid em
  clear em
  go_enter Tryd.func69, Tryd.ntmps69
  go_wp2_with fail
  refine (impl_PolyOk _ _ _ _ _ H.out).mono ?_
  rintro e w' ⟨rfl, rfl⟩
  go_wp2_with fail
  refine (impl_PolyOk _ _ _ _ _ H'.out).mono ?_
  rintro e w' ⟨rfl, rfl⟩
  go_wp2
  go_loopw [38] (fun i wr => ∃ k : Nat, k ≤ n ∧ i = .int .i64 k ∧ Hid (MulAt w.heap.size w.heap.size 9 xs ys k 0 wr) ∧ Hid (Below w.heap.size w wr)) (fun i _ => n - (intOf i).toNat)
  case atStart => exact ⟨0, by omega, rfl, ⟨_, (own_nine _ w _ (Nat.le_refl _)).lt, Fp.mulTo_start _ _ _, rep_ok _⟩, (Below.refl _ _).alloc (Nat.le_refl _) _⟩
  case round =>
    obtain ⟨i, hi, rfl, hO, hB⟩ := hrel
    by_cases hlt : i < n
    · obtain ⟨b, off, x, rfl, hc, hz⟩ := (H.out.below hB.out).get hlt
      have hxo : Fp.ok x = true := by rw [hz.out]; exact X.out i
      go_wp2
      go_loopw [45] (fun j wr => ∃ k : Nat, k ≤ n' ∧ j = .int .i64 k ∧ Hid (MulAt w.heap.size w.heap.size 9 xs ys i k wr) ∧ Hid (Below w.heap.size w wr)) (fun j _ => n' - (intOf j).toNat)
      case atStart => exact ⟨0, by omega, rfl, hO.out, hB.out⟩
      case round =>
        clear hO hB hc
        obtain ⟨k, hk, rfl, hO, hB⟩ := hrel
        by_cases hkt : k < n'
        · obtain ⟨zs, hOw, hTo, hOk⟩ := hO.out
          have OW := Lib.hid hOw
          have TO := Lib.hid hTo
          have OK := Lib.hid hOk
          clear hOw hTo hOk
          obtain ⟨b', off', y, rfl, hc', hz'⟩ := (H'.out.below hB.out).get hkt
          obtain ⟨hlo, hhi, z, hcz, hf, hzz⟩ := OW.out.get0 (show i + k < 9 by omega)
          have hyo : Fp.ok y = true := by rw [hz'.out]; exact Y.out k
          have hzo : Fp.ok z = true := by rw [hzz.out]; exact OK.out _
          have s0 : (0 : Int) ≤ (i : Int) + (k : Int) := by omega
          have s1 : (i : Int) + (k : Int) < 9 := by omega
          have f1 : IntKind.i64.wrap ((i : Int) + (k : Int)) = (i : Int) + (k : Int) := IntWalk.i64_in _ (by omega)
          have f2 : ((i : Int) + (k : Int)).toNat = i + k := by omega
          go_wp2
          go_still_tail 13, (by kernel_rfl)
          still_call (quiet_l (impl_times _ _ _ hxo hyo))
          still_call (quiet_l (impl_plus _ _ _ hzo (Fp.emod_ok _)))
          repeat still_step
          refine wpStill_nil ?_
          change wpList _ _ _ _ _ wr.drew
          clear f1 f2
          go_wp2
          go_roundw
          case rel => exact ⟨k + 1, by omega, by go_num, MulAt.step OW.out TO.out OK.out hz.out hz'.out hzz.out (by omega), (hB.out.setCell (Nat.le_refl _) _).drew⟩
          case measure => simp [intOf]; omega
        · have e : k = n' := by omega
          subst e
          have O2 := Lib.hid (hO.out.row L'.out)
          clear hO
          go_wp2
          go_roundw
          case rel => exact ⟨i + 1, by omega, by go_num, O2.out, hB.out⟩
          case measure => simp [intOf]; omega
    · have e : i = n := by omega
      subst e
      obtain ⟨zs, h1, h2, h3⟩ := hO.out
      have l1 := L.out
      have l2 := L'.out
      have l3 := h1.len
      have E := Fp.mulTo_end (a := xs) (b := ys) (zs := zs) (by rw [l1]; exact h2) (by omega) (by omega) (by omega)
      rw [show xs.length + ys.length - 1 = m by omega] at E
      have S := Lib.hid (h1.sl.cut (m := m) (by omega))
      rw [E] at S
      clear h1 h2 h3 l1 l2 l3 E
      have hsl := nine_cut m (by omega) w.heap.size
      rw [EM.out]
      go_wp2_with fail
      refine (impl_numbers _ _ _ _ _ S.out (by omega)).mono ?_
      rintro e w2 ⟨a2, m2, cap2, rfl, hO2, hB2⟩
      have O2 := Lib.hid hO2
      have B2 := Lib.hid (hB.out.trans (hB2.mono hB.out.size))
      have Z := Lib.hid hB.out.size
      clear hO2 hB2
      go_wp2
      go_ret2
      exact ⟨_, _, _, rfl, O2.out.more Z.out (Nat.le_refl _), B2.out⟩
theorem impl_PolyMul (a a' : Option Addr) (n n' cap cap' : Nat) (xs ys : List Int) (w : World) (h : Sl w a n xs) (h' : Sl w a' n' ys) :
    Calls Tryd.prog 69 #[.slice a n cap, .slice a' n' cap'] w (NewIntsB (Fp.pmul xs ys) (Fp.mulB xs ys) w) := by
  have H := Lib.hid h
  have H' := Lib.hid h'
  have L := Lib.hid h.len
  have L' := Lib.hid h'.len
  clear h h'
  cases hx : Fp.pok xs
  · have hb := Fp.mulB_na (b := ys) hx
    rw [Fp.pmul_no hb, hb]
    go_enter Tryd.func69, Tryd.ntmps69
    go_wp2_with fail
    refine (impl_PolyOk _ _ _ _ _ H.out).mono ?_
    rintro e w' ⟨rfl, rfl⟩
    go_wp2
    go_ret2
    exact ⟨_, _, _, rfl, Own.nil _ _ _ _ _ (by unfold maxLen; omega), Below.refl _ _⟩
  · cases hy : Fp.pok ys
    · have hb := Fp.mulB_nb (a := xs) hy
      rw [Fp.pmul_no hb, hb]
      go_enter Tryd.func69, Tryd.ntmps69
      go_wp2_with fail
      refine (impl_PolyOk _ _ _ _ _ H.out).mono ?_
      rintro e w' ⟨rfl, rfl⟩
      go_wp2_with fail
      refine (impl_PolyOk _ _ _ _ _ H'.out).mono ?_
      rintro e w' ⟨rfl, rfl⟩
      go_wp2
      go_ret2
      exact ⟨_, _, _, rfl, Own.nil _ _ _ _ _ (by unfold maxLen; omega), Below.refl _ _⟩
    · by_cases n0 : n = 0
      · subst n0
        have xe := List.eq_nil_of_length_eq_zero L.out
        have hb : Fp.mulB xs ys = true := Fp.mulB_yes hx hy (by rw [xe, Fp.mulL_nil_left]; simp)
        rw [hb, Fp.pmul_yes hb]
        subst xe
        rw [Fp.mulL_nil_left]
        clear hb
        go_enter Tryd.func69, Tryd.ntmps69
        go_wp2_with fail
        refine (impl_PolyOk _ _ _ _ _ H.out).mono ?_
        rintro e w' ⟨rfl, rfl⟩
        go_wp2_with fail
        refine (impl_PolyOk _ _ _ _ _ H'.out).mono ?_
        rintro e w' ⟨rfl, rfl⟩
        go_wp2
        go_ret2
        exact ⟨_, _, _, rfl, Own.nil _ _ _ _ _ (by unfold maxLen; omega), Below.refl _ _⟩
      · have nb : ((n : Int) == 0) = false := by simp; omega
        by_cases n0' : n' = 0
        · subst n0'
          have ye := List.eq_nil_of_length_eq_zero L'.out
          have hb : Fp.mulB xs ys = true := Fp.mulB_yes hx hy (by rw [ye, Fp.mulL_nil_right]; simp)
          rw [hb, Fp.pmul_yes hb]
          subst ye
          rw [Fp.mulL_nil_right]
          clear hb
          go_enter Tryd.func69, Tryd.ntmps69
          go_wp2_with fail
          refine (impl_PolyOk _ _ _ _ _ H.out).mono ?_
          rintro e w' ⟨rfl, rfl⟩
          go_wp2_with fail
          refine (impl_PolyOk _ _ _ _ _ H'.out).mono ?_
          rintro e w' ⟨rfl, rfl⟩
          go_wp2
          go_ret2
          exact ⟨_, _, _, rfl, Own.nil _ _ _ _ _ (by unfold maxLen; omega), Below.refl _ _⟩
        · have nb' : ((n' : Int) == 0) = false := by simp; omega
          have l1 := L.out
          have l2 := L'.out
          have lm := Fp.mulL_len (a := xs) (b := ys) (by omega) (by omega)
          by_cases h9 : n + n' ≤ 10
          · have hb : Fp.mulB xs ys = true := Fp.mulB_yes hx hy (by omega)
            rw [hb, Fp.pmul_yes hb]
            exact impl_PolyMul_yes a a' n n' cap cap' xs ys w H.out H'.out hx hy (by omega) (by omega) h9
          · have hb : Fp.mulB xs ys = false := Fp.mulB_long (by omega)
            have n9 := Fp.pok_len hx
            have n9' := Fp.pok_len hy
            have m1 : n ≤ 9 := by omega
            have m2 : n' ≤ 9 := by omega
            rw [Fp.pmul_no hb, hb]
            clear l1 l2 lm hb n9 n9'
            go_enter Tryd.func69, Tryd.ntmps69
            go_wp2_with fail
            refine (impl_PolyOk _ _ _ _ _ H.out).mono ?_
            rintro e w' ⟨rfl, rfl⟩
            go_wp2_with fail
            refine (impl_PolyOk _ _ _ _ _ H'.out).mono ?_
            rintro e w' ⟨rfl, rfl⟩
            go_wp2
            go_ret2
            exact ⟨_, _, _, rfl, Own.nil _ _ _ _ _ (by unfold maxLen; omega), Below.refl _ _⟩
end Go.Proofs.YtmfmhhopnmglcaaDoor
