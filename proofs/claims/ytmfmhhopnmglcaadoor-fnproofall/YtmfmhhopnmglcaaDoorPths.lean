/-
  Interpolation: the model's PolyThrough (Lagrange's way).
-/
import Derived.Test.YtmfmhhopnmglcaaDoorPthr
namespace Go.Proofs.YtmfmhhopnmglcaaDoor
open Go.RowKit
set_option linter.unusedVariables false
set_option linter.unusedSimpArgs false
set_option maxRecDepth 20000
/-- Sums under way: they lie in block g, of n numbers. -/
def ThAt (g n : Nat) (vals : List Int) (i k : Nat) (w : World) : Prop := ∃ zs, Own g (g + 1) w (some ⟨g, 0, none⟩) n n zs ∧ Fp.thTo vals zs i k ∧ ∀ t, Fp.ok (zs.getD t 0) = true
theorem ThAt.below {g n i k : Nat} {vals : List Int} {w w' : World} (h : ThAt g n vals i k w) (hb : Below w.heap.size w w') : ThAt g n vals i k w' := by
  obtain ⟨zs, h1, h2, h3⟩ := h
  exact ⟨zs, h1.below hb, h2, h3⟩
/-- A slice that does not lie in block g. -/
def SlOff (g : Nat) (w : World) (a : Option Addr) (n : Nat) (zs : List Int) : Prop := Sl w a n zs ∧ (0 < n → ∀ b off, a = some ⟨b, off, none⟩ → b ≠ g)
theorem SlOff.far {g : Nat} {w : World} {a : Option Addr} {n k : Nat} {zs : List Int} (h : SlOff g w a n zs) (v : Value) : SlOff g (w.setCell ⟨g, k, none⟩ v) a n zs := by
  refine ⟨?_, h.2⟩
  rcases Nat.eq_zero_or_pos n with h0 | h0
  · subst h0; exact ⟨h.1.len, fun hh => by omega⟩
  · exact h.1.far (q := ⟨g, k, none⟩) (fun b off hb => h.2 h0 b off hb) v
theorem SlOff.drew {g : Nat} {w : World} {a : Option Addr} {n : Nat} {zs : List Int} (h : SlOff g w a n zs) : SlOff g w.drew a n zs := ⟨⟨h.1.len, h.1.at_⟩, h.2⟩
theorem SlOff.below {g : Nat} {w w' : World} {a : Option Addr} {n : Nat} {zs : List Int} (h : SlOff g w a n zs) (hb : Below w.heap.size w w') : SlOff g w' a n zs := ⟨h.1.below hb, h.2⟩
theorem SlOff.own {g lo hi : Nat} {w : World} {a : Option Addr} {n cap : Nat} {zs : List Int} (h : Own lo hi w a n cap zs) (hg : g < lo) : SlOff g w a n zs := by
  refine ⟨h.sl, fun h0 b off hb => ?_⟩
  obtain ⟨b', off', h1, h2, _⟩ := h.at_ h0
  rw [hb] at h1
  simp at h1
  omega
set_option maxHeartbeats 1000000 in
theorem spec_l2Through (a : Option Addr) (n cap : Nat) (vals : List Int) (w : World) (h : Sl w a n vals) (hp : Fp.pok vals = true) :
    Calls Tryd.prog 62 #[.slice a n cap] w (NewInts (Fp.thr vals) w) := by
  have H := Lib.hid h
  have L := Lib.hid h.len
  have V := Lib.hid (Fp.pok_get hp)
  have n9 : n ≤ 9 := by have := Fp.pok_len hp; rw [L.out] at this; exact this
  clear h hp
  obtain ⟨i0, hi0, hz0, hz1, hz2⟩ := info_parts int_info
  have I := Lib.hid (show i0.bytes * n ≤ 281474976710656 by rw [hz2]; omega)
  have M : n ≤ maxLen := by unfold maxLen; omega
  go_enter Tryd.func62, Tryd.ntmps62
  go_wp2_with ((with_reducible refine wpList_make_full _ rfl (.tmp 10) (.tmp 10) 22 rfl w.heap.size 3 i0 _ 1 Tryd.underlying22 hi0 hz0 hz1 .i64 .i64 _ _ n rfl rfl rfl rfl I.out M (Nat.le_refl _) ?_); intro w1 own grow)
  have O : Hid (ThAt w.heap.size n vals 0 0 w1) := by
    have o1 := Own.of_row (own_made own)
    refine ⟨_, ⟨o1.len, o1.le, o1.lim, fun hn => ?_⟩, Fp.thTo_start _ _, rep_ok _⟩
    obtain ⟨b, off, g1, g2, g3, g4, g5⟩ := o1.at_ hn
    simp at g1
    exact ⟨b, off, by simp [g1], g2, by omega, g4, g5⟩
  have B := Lib.hid ((Below.refl w.heap.size w).grown grow (Nat.le_refl _) (by simp))
  have Z : w.heap.size < w1.heap.size := by
    rcases own.2 with ⟨h1, _⟩ | ⟨g, c, cur, h1, _, h2, _⟩
    · simp at h1
    · simp at h1
      rw [h1.1]
      rcases Nat.lt_or_ge g w1.heap.size with h' | h'
      · exact h'
      · rw [Array.getElem?_eq_none h'] at h2; cases h2
  clear own grow hi0 hz0 hz1 hz2 I
  go_loopw [4] (fun i wr => ∃ k : Nat, k ≤ n ∧ i = .int .i64 k ∧ w.heap.size < wr.heap.size ∧ Hid (ThAt w.heap.size n vals k 0 wr) ∧ Hid (Below w.heap.size w wr)) (fun i _ => n - (intOf i).toNat)
  case atStart => exact ⟨0, by omega, rfl, Z, O.out, B.out⟩
  case round =>
    clear Z O B
    obtain ⟨i, hi, rfl, hZ, hO, hB⟩ := hrel
    by_cases hlt : i < n
    · have hio := Fp.nat_ok (show i < 31 by omega)
      go_wp2
      go_loopw [5, 6] (fun p j wr => ∃ (k m c : Nat) (a1 : Option Addr), k ≤ n ∧ m ≤ 10 ∧ j = .int .i64 k ∧ p = .slice a1 m c ∧ w.heap.size < wr.heap.size ∧ Hid (SlOff w.heap.size wr a1 m (Fp.qTo i k)) ∧ Hid (ThAt w.heap.size n vals i 0 wr) ∧ Hid (Below w.heap.size w wr)) (fun _ j _ => n - (intOf j).toNat)
      case atStart => exact ⟨0, 1, 1, _, by omega, by omega, rfl, rfl, by simp; omega, ⟨sl_one _ _ _, by intro _ b off hb; simp at hb; omega⟩, hO.out.below ((Below.refl _ _).alloc (Nat.le_refl _) _), hB.out.alloc hB.out.size _⟩
      case round =>
        clear hO hB hZ
        obtain ⟨k, m, c, a1, hk, hm, rfl, rfl, hZ, hS, hO, hB⟩ := hrel
        by_cases hkt : k < n
        · by_cases e : k = i
          · subst e
            have S2 : Hid (SlOff w.heap.size wr a1 m (Fp.qTo k (k + 1))) := by show SlOff _ _ _ _ _; rw [Fp.qTo, if_pos rfl]; exact hS.out
            go_wp2
            go_roundw
            case rel => exact ⟨k + 1, m, c, a1, by omega, hm, by go_num, rfl, hZ, S2.out, hO.out, hB.out⟩
            case measure => simp [intOf]; omega
          · have eb : ((k : Int) != (i : Int)) = true := by simp; omega
            have hd : Hid (Fp.dif (i : Int) (k : Int) ≠ 0) := Fp.dif_nz (by omega) (by omega) e
            have hv := Fp.inv_ok' (Fp.dif_ok (i : Int) (k : Int)) hd.out
            have QE : Hid (Fp.qTo i (k + 1) = Fp.mulL (Fp.qTo i k) [Fp.mul (Fp.dif 0 k) (Fp.inv (Fp.dif i k)), Fp.inv (Fp.dif i k)]) := by show _ = _; rw [Fp.qTo, if_neg e]
            clear e
            have S1 := Lib.hid (hS.out.1.alloc (.cells #[.int .i64 (Fp.mul (Fp.dif 0 (k : Int)) (Fp.inv (Fp.dif (i : Int) (k : Int)))), .int .i64 (Fp.inv (Fp.dif (i : Int) (k : Int)))] 3))
            have T2 := Lib.hid (sl_two wr 3 (Fp.mul (Fp.dif 0 (k : Int)) (Fp.inv (Fp.dif (i : Int) (k : Int)))) (Fp.inv (Fp.dif (i : Int) (k : Int))))
            go_wp2_with (first | (go_at_call 80; (with_reducible refine (spec_FieldDif _ _ _).mono ?_); rintro e w' ⟨rfl, rfl⟩) | (go_at_call 81; (with_reducible refine (spec_FieldMul _ _ _).mono ?_); rintro e w' ⟨rfl, rfl⟩) | (go_at_call 79; (with_reducible refine (spec_l1Inv _ _ (Fp.dif_ok _ _)).mono ?_); rintro e w' ⟨rfl, rfl⟩))
            refine (spec_l2Mul _ _ _ _ _ _ _ _ _ S1.out T2.out (Fp.getD_ok (Fp.qTo_ok i k)) (Fp.getD_ok (by intro z hz; rcases List.mem_cons.1 hz with rfl | hz; exact Fp.mul_ok _ _; rcases List.mem_cons.1 hz with rfl | hz; exact hv; cases hz)) (by omega) (by omega)).mono ?_
            rintro e w2 ⟨a2, m2, c2, rfl, hO2, hB2⟩
            rw [← QE.out] at hO2
            have hm2 : m2 ≤ 10 := by
              have h1 := hO2.len
              rw [Fp.qTo_len] at h1
              split at h1 <;> omega
            have S2 := Lib.hid (SlOff.own (g := w.heap.size) hO2 (by simp; omega))
            have hB3 := ((Below.refl wr.heap.size wr).alloc (Nat.le_refl _) (.cells #[.int .i64 (Fp.mul (Fp.dif 0 (k : Int)) (Fp.inv (Fp.dif (i : Int) (k : Int)))), .int .i64 (Fp.inv (Fp.dif (i : Int) (k : Int)))] 3)).trans (hB2.mono (by simp))
            have O3 := Lib.hid (hO.out.below hB3)
            have B3 := Lib.hid (hB.out.trans (hB3.mono hB.out.size))
            have hZ3 : w.heap.size < w2.heap.size := Nat.lt_of_lt_of_le hZ hB3.size
            clear hO2 hB2 hB3 S1 T2 hS hO hB
            go_wp2
            go_roundw
            case rel => exact ⟨k + 1, m2, c2, a2, by omega, hm2, by go_num, rfl, hZ3, S2.out, O3.out, B3.out⟩
            case measure => simp [intOf]; omega
        · have e : k = n := by omega
          subst e
          have em : m = k := by
            have h1 := hS.out.1.len
            rw [Fp.qTo_len, if_pos hlt] at h1
            exact h1.symm
          subst em
          go_wp2
          go_loopw [8] (fun j wr => ∃ q : Nat, q ≤ m ∧ j = .int .i64 q ∧ w.heap.size < wr.heap.size ∧ Hid (SlOff w.heap.size wr a1 m (Fp.qTo i m)) ∧ Hid (ThAt w.heap.size m vals i q wr) ∧ Hid (Below w.heap.size w wr)) (fun j _ => m - (intOf j).toNat)
          case atStart => exact ⟨0, by omega, rfl, hZ, hS.out, hO.out, hB.out⟩
          case round =>
            clear hZ hS hO hB
            obtain ⟨q, hq, rfl, hZ, hS, hO, hB⟩ := hrel
            by_cases hqt : q < m
            · obtain ⟨zs, g1, g2, g3⟩ := hO.out
              obtain ⟨b, off, x, rfl, hc, hx⟩ := (H.out.below hB.out).get hlt
              obtain ⟨b', off', y, rfl, hc', hy⟩ := hS.out.1.get hqt
              obtain ⟨hlo, hhi, z, hcz, hf, hz⟩ := g1.get0 hqt
              have hxo : Fp.ok x = true := by rw [hx.out]; exact V.out i
              have hyo : Fp.ok y = true := by rw [hy.out]; exact Fp.getD_ok (Fp.qTo_ok i m) _
              have hzo : Fp.ok z = true := by rw [hz.out]; exact g3 _
              have A2 : Hid (ThAt w.heap.size m vals i (q + 1) (wr.setCell ⟨w.heap.size, q, none⟩ (.int .i64 ((z + x * y) % 31))).drew) := by
                refine ⟨_, (g1.set0 hqt ((z + x * y) % 31)).drew, ?_, set_ok g3 _ (Fp.emod_ok _)⟩
                have := Fp.thTo_step g2 (show q < zs.length by rw [g1.len]; exact hqt)
                rw [L.out, ← hx.out, ← hy.out, ← hz.out] at this
                exact this
              clear g1 g2 g3 hO
              obtain ⟨p0, p1⟩ := Fp.mul_bd hxo hyo
              obtain ⟨z0, z1⟩ := (Fp.ok_iff z).1 hzo
              have e0 : (0 : Int) ≤ (i : Int) := by omega
              have e1 : (i : Int) < (m : Int) := by omega
              have e2 : (0 : Int) ≤ (q : Int) := by omega
              have e3 : (q : Int) < (m : Int) := by omega
              have f3 : IntKind.i64.wrap (x * y) = x * y := IntWalk.i64_in _ (by omega)
              have f4 : IntKind.i64.wrap (z + x * y) = z + x * y := IntWalk.i64_in _ (by omega)
              go_wp2
              go_still_tail 18, (by kernel_rfl)
              change wpList _ _ _ _ _ wr.drew
              clear f3 f4
              go_wp2
              go_roundw
              case rel => exact ⟨q + 1, by omega, by go_num, by simp [World.setCell]; omega, (hS.out.far _).drew, A2.out, (hB.out.setCell (Nat.le_refl _) _).drew⟩
              case measure => simp [intOf]; omega
            · have e : q = m := by omega
              subst e
              have A2 : Hid (ThAt w.heap.size q vals (i + 1) 0 wr) := by
                obtain ⟨zs, g1, g2, g3⟩ := hO.out
                exact ⟨zs, g1, Fp.thTo_row (by rw [g1.len]; exact g2), g3⟩
              clear hO
              go_wp2
              go_roundw
              case rel => exact ⟨i + 1, by omega, by go_num, hZ, A2.out, hB.out⟩
              case measure => simp [intOf]; omega
    · have e : i = n := by omega
      subst e
      go_wp2
      go_ret
      obtain ⟨zs, g1, g2, g3⟩ := hO.out
      have e2 := Fp.thTo_end (vals := vals) (zs := zs) (by rw [L.out]; exact g2) (by rw [L.out]; exact g1.len)
      exact ⟨_, _, _, rfl, e2 ▸ g1.lt, hB.out⟩
end Go.Proofs.YtmfmhhopnmglcaaDoor
