/-
  What the functions of chapter 2 return, of the program and of the model: contracts of their calls.
-/
import Derived.Test.YtmfmhhopnmglcaaDoorField
import Derived.Test.YtmfmhhopnmglcaaDoorLw
import Derived.Test.YtmfmhhopnmglcaaDoorPq
import Derived.Outline
import Derived.StillTailTactics
namespace Go.Proofs.YtmfmhhopnmglcaaDoor
open Go.RowKit
set_option linter.unusedVariables false
set_option linter.unusedSimpArgs false
theorem impl_PolyOk (a : Option Addr) (n cap : Nat) (zs : List Int) (w : World) (h : Sl w a n zs) :
    Calls Tryd.prog 65 #[.slice a n cap] w fun e w' => e = .returned (.bool (Fp.pok zs)) ∧ w = w' := by
  have H := Lib.hid h
  have L := Lib.hid h.len
  clear h
  by_cases h9 : 9 < n
  · have E0 : Fp.pok zs = false := Fp.pok_long (by rw [L.out]; exact h9)
    rw [E0]; clear E0
    go_enter Tryd.func65, Tryd.ntmps65
    go_wp2
    go_ret
    exact ⟨rfl, rfl⟩
  · go_enter Tryd.func65, Tryd.ntmps65
    go_wp2
    go_loop [10] (fun i => ∃ k : Nat, k ≤ n ∧ Fp.okTo zs k ∧ i = .int .i64 k) (fun i => n - (intOf i).toNat)
    case atStart => exact ⟨0, by omega, Fp.okTo_zero _, rfl⟩
    case round =>
      obtain ⟨k, hk, ht, rfl⟩ := hrel
      have T := Lib.hid ht
      clear ht
      by_cases hlt : k < n
      · obtain ⟨b, off, z, rfl, hc, hz⟩ := H.out.get hlt
        cases hf : Fp.ok z
        · have E0 : Fp.pok zs = false := Fp.pok_bad (k := k) (by rw [L.out]; exact hlt) (by rw [← hz.out]; exact hf)
          have E := Lib.hid E0; clear E0
          go_wp2_with (go_at_call 48; (with_reducible refine (impl_FieldOk _ _).mono ?_); rintro e w' ⟨rfl, rfl⟩)
          go_ret
          exact ⟨by rw [E.out]; rfl, rfl⟩
        · have T2 := Lib.hid (Fp.okTo_succ T.out (by rw [← hz.out]; exact hf))
          go_wp2_with (go_at_call 48; (with_reducible refine (impl_FieldOk _ _).mono ?_); rintro e w' ⟨rfl, rfl⟩)
          go_round
          case rel => exact ⟨k + 1, by omega, T2.out, by go_num⟩
          case measure => simp [intOf]; omega
      · have E0 : Fp.pok zs = true := by
          have : k = zs.length := by rw [L.out]; omega
          rw [Fp.pok_all (by rw [← this]; exact T.out)]; simp; rw [L.out]; omega
        have E := Lib.hid E0; clear E0
        go_wp2
        go_ret
        exact ⟨by rw [E.out]; rfl, rfl⟩
theorem spec_PolyOk (a : Option Addr) (n cap : Nat) (zs : List Int) (w : World) (h : Sl w a n zs) (hm : n ≤ 1048576) :
    Calls Tryd.prog 59 #[.slice a n cap] w fun e w' => e = .returned (.bool (Fp.pok zs)) ∧ w = w' := by
  have H := Lib.hid h
  have L := Lib.hid h.len
  clear h
  go_enter Tryd.func59, Tryd.ntmps59
  go_wp2
  go_loop [3] (fun i => ∃ k : Nat, k ≤ n ∧ Fp.okTo zs k ∧ i = .int .i64 k) (fun i => n - (intOf i).toNat)
  case atStart => exact ⟨0, by omega, Fp.okTo_zero _, rfl⟩
  case round =>
    obtain ⟨k, hk, ht, rfl⟩ := hrel
    have T := Lib.hid ht
    clear ht
    by_cases hlt : k < n
    · obtain ⟨b, off, z, rfl, hc, hz⟩ := H.out.get hlt
      cases hf : Fp.ok z
      · have E0 : Fp.pok zs = false := Fp.pok_bad (k := k) (by rw [L.out]; exact hlt) (by rw [← hz.out]; exact hf)
        have E := Lib.hid E0; clear E0
        go_wp2_with (go_at_call 58; (with_reducible refine (spec_FieldOk _ _).mono ?_); rintro e w' ⟨rfl, rfl⟩)
        go_ret
        exact ⟨by rw [E.out]; rfl, rfl⟩
      · have T2 := Lib.hid (Fp.okTo_succ T.out (by rw [← hz.out]; exact hf))
        go_wp2_with (go_at_call 58; (with_reducible refine (spec_FieldOk _ _).mono ?_); rintro e w' ⟨rfl, rfl⟩)
        go_round
        case rel => exact ⟨k + 1, by omega, T2.out, by go_num⟩
        case measure => simp [intOf]; omega
    · have E0 : Fp.pok zs = decide (n ≤ 9) := by
        have : k = zs.length := by rw [L.out]; omega
        rw [Fp.pok_all (by rw [← this]; exact T.out), L.out]
      have E := Lib.hid E0; clear E0
      by_cases h9 : n ≤ 9
      · go_wp2
        go_ret
        exact ⟨by rw [E.out]; simp [h9]; omega, rfl⟩
      · go_wp2
        go_ret
        exact ⟨by rw [E.out]; simp [h9]; omega, rfl⟩
theorem nine_len : Tryd.prog.arrayLen 110 = 9 := by kernel_rfl
theorem nine_under : Tryd.prog.underlying 110 = some (.array (Tryd.prog.arrayLen 110) (Tryd.prog.elem 110)) := by kernel_rfl
theorem nine_size (w : World) : (sizeOf (Tryd.prog.elem 110)).run Tryd.prog w = .ok 1 w := by kernel_rfl
/-- The first k of an array of nine. -/
theorem nine_cut (k : Nat) (hk : k ≤ 9) (g : Nat) (w : World) :
    (Instr.sliceAt 110 (.pointer (some ⟨g, 0, none⟩)) none (some (.int .i64 (k : Int))) none).run Tryd.prog w = .ok (.slice (some ⟨g, 0, none⟩) k 9) w := by
  rw [run_sliceAt_array_h w _ ⟨g, 0, none⟩ nine_under .i64 (k : Int) (by omega) (by rw [nine_len]; omega), nine_size]
  simp [Result.andThen, slicedAt, nine_len, Addr.add]
theorem impl_numbers (a : Option Addr) (n cap : Nat) (zs : List Int) (w : World) (h : Sl w a n zs) (hm : n ≤ 1048576) :
    Calls Tryd.prog 85 #[.slice a n cap] w (NewInts zs w) := by
  have L := Lib.hid h.len
  have H := Lib.hid h
  clear h
  obtain ⟨i0, hi0, hz0, hz1, hz2⟩ := info_parts int_info
  have I := Lib.hid (show i0.bytes * n ≤ 281474976710656 by rw [hz2]; omega)
  have M : n ≤ maxLen := by unfold maxLen; omega
  go_enter Tryd.func85, Tryd.ntmps85
  go_wp2_with ((with_reducible refine wpList_make_full _ rfl (.tmp 7) (.tmp 7) 22 rfl w.heap.size 3 i0 _ 1 Tryd.underlying22 hi0 hz0 hz1 .i64 .i64 _ _ n rfl rfl rfl rfl I.out M (Nat.le_refl _) ?_); intro w1 own grow)
  have O := Lib.hid (Own.of_row (own_made own))
  have B := Lib.hid ((Below.refl w.heap.size w).grown grow (Nat.le_refl _) (by simp))
  clear own grow
  go_loopw [11] (fun i wr => ∃ k : Nat, k ≤ n ∧ i = .int .i64 k ∧ Hid (Own w.heap.size wr.heap.size wr (some ⟨w.heap.size, 0, none⟩) n n (fill (List.replicate n 0) (fun j => zs.getD j 0) k)) ∧ Hid (Below w.heap.size w wr)) (fun i _ => n - (intOf i).toNat)
  case atStart => exact ⟨0, by omega, rfl, O.out, B.out⟩
  case round =>
    obtain ⟨k, hk, rfl, hO, hB⟩ := hrel
    by_cases hlt : k < n
    · obtain ⟨b, off, z, rfl, hc, hz⟩ := (H.out.below hB.out).get hlt
      obtain ⟨hlo, hhi, z', hc', hf', -⟩ := hO.out.get0 hlt
      have O2 := Lib.hid (hO.out.set0 hlt z)
      have B2 := Lib.hid (hB.out.setCell (p := ⟨w.heap.size, k, none⟩) (Nat.le_refl _) (.int .i64 z))
      go_wp2
      go_roundw
      case rel => exact ⟨k + 1, by omega, by go_num, by show Own _ _ _ _ _ _ _; have := O2.out; rw [hz.out] at this; simpa [fill, World.setCell, hz.out] using this, B2.out⟩
      case measure => simp [intOf]; omega
    · have e : k = n := by omega
      subst e
      go_wp2
      go_ret
      exact ⟨_, _, _, rfl, copy_done L.out hO.out, hB.out⟩
end Go.Proofs.YtmfmhhopnmglcaaDoor
