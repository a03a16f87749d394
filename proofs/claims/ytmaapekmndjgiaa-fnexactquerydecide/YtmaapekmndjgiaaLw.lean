/-
  The helpers of the laws over slices of integers: comparing, copying, marking, looking at marks.
-/
import Derived.Test.YtmaapekmndjgiaaRows
import Derived.Test.YtmaapekmndjgiaaSl
import Derived.Outline
import Derived.StillTailTactics
namespace Go.Proofs.Ytmaapekmndjgiaa
open Go.RowKit
set_option linter.unusedVariables false
set_option linter.unusedSimpArgs false
theorem int_info : (Try.prog.info? 3).map (fun i => (i.zero, i.size, i.bytes)) = some (some (.int .i64 0), 1, 8) := by kernel_rfl
theorem int_ty : IntTy Try.prog 22 3 := ⟨Try.underlying22, int_info⟩
theorem quiet_l {P : Program} {f : FuncId} {args : Array Value} {W : World} {v : Value} (h : Calls P f args W fun e w' => e = .returned v ∧ W = w') :
    Calls P f args W fun e w' => e = .returned v ∧ w' = W := h.mono fun _ _ ⟨he, hm⟩ => ⟨he, hm.symm⟩
theorem copy_done {lo hi : Nat} {w : World} {a : Option Addr} {n cap : Nat} {zs : List Int} (hl : zs.length = n) (h : Own lo hi w a n cap (fill (List.replicate n 0) (fun i => zs.getD i 0) n)) : Own lo hi w a n cap zs := by
  have e : fill (List.replicate n 0) (fun i => zs.getD i 0) n = zs := by
    have := fill_all (zs := List.replicate n (0 : Int)) (ys := zs) (f := fun i => zs.getD i 0) (by simp [hl]) (fun i hi => rfl)
    simpa using this
  rw [e] at h; exact h
theorem laws_eqIntS (a a' : Option Addr) (n n' cap cap' : Nat) (xs ys : List Int) (w : World) (h : Sl w a n xs) (h' : Sl w a' n' ys) (hm : n ≤ 1048576) (hm' : n' ≤ 1048576) :
    Calls Try.prog 7 #[.slice a n cap, .slice a' n' cap'] w (Drew (.bool (eqB xs ys)) w) := by
  have H := Lib.hid h
  have H' := Lib.hid h'
  have L := Lib.hid h.len
  have L' := Lib.hid h'.len
  clear h h'
  by_cases e : n = n'
  · subst e
    go_enter Try.func7, Try.ntmps7
    go_wp2
    go_loopw [5] (fun i wr => ∃ (k m : Nat), k ≤ n ∧ sameTo xs ys k ∧ i = .int .i64 k ∧ Hid (wr = w.drewN m)) (fun i _ => n - (intOf i).toNat)
    case atStart => exact ⟨0, 0, by omega, sameTo_zero _ _, rfl, rfl⟩
    case round =>
      obtain ⟨k, m, hk, ht, rfl, hw⟩ := hrel
      have T := Lib.hid ht
      clear ht
      by_cases hlt : k < n
      · have S := H.out.drewN m
        have S' := H'.out.drewN m
        rw [← hw.out] at S S'
        obtain ⟨b, off, z, rfl, hc, hz⟩ := S.get hlt
        obtain ⟨b', off', z', rfl, hc', hz'⟩ := S'.get hlt
        clear S S'
        by_cases hf : z = z'
        · have T2 := Lib.hid (sameTo_succ T.out (by rw [← hz.out, ← hz'.out]; exact hf))
          subst hf
          go_wp2
          go_quiet (fail)
          go_wp2
          go_roundw
          case rel => exact ⟨k + 1, m + nq, by omega, T2.out, by go_num, by show _ = _; rw [hw.out, World.drewN_drewN]⟩
          case measure => simp [intOf]; omega
        · have E := Lib.hid (eqB_at (xs := xs) (ys := ys) (k := k) (by rw [← hz.out, ← hz'.out]; exact hf))
          have hfb : (z == z') = false := beqF hf
          have hfn : (z != z') = true := by rw [bne, hfb]; rfl
          clear hf
          go_wp2
          go_quiet (fail)
          go_wp2
          go_ret
          exact ⟨by rw [E.out]; rfl, m + nq, by rw [hw.out, World.drewN_drewN]⟩
      · have E := Lib.hid (eqB_all (xs := xs) (ys := ys) (by rw [L.out, L'.out]) (by rw [L.out, ← show k = n by omega]; exact T.out))
        go_wp2
        go_ret
        exact ⟨by rw [E.out]; rfl, m, hw.out⟩
  · have E := Lib.hid (eqB_len (xs := xs) (ys := ys) (by rw [L.out, L'.out]; exact e))
    have ei : ((n : Int) != (n' : Int)) = true := by simp; omega
    clear e
    go_enter Try.func7, Try.ntmps7
    go_wp2
    go_ret
    exact ⟨by rw [E.out]; rfl, 0, rfl⟩
theorem laws_toIntS (a : Option Addr) (n cap : Nat) (zs : List Int) (w : World) (h : Sl w a n zs) (hm : n ≤ 1048576) :
    Calls Try.prog 5 #[.slice a n cap] w (NewInts zs w) := by
  have L := Lib.hid h.len
  have H := Lib.hid h
  clear h
  obtain ⟨i0, hi0, hz0, hz1, hz2⟩ := info_parts int_info
  have I := Lib.hid (show i0.bytes * n ≤ 281474976710656 by rw [hz2]; omega)
  have M : n ≤ maxLen := by unfold maxLen; omega
  go_enter Try.func5, Try.ntmps5
  go_wp2_with ((with_reducible refine wpList_make_full _ rfl (.tmp 6) (.tmp 6) 22 rfl w.heap.size 3 i0 _ 1 Try.underlying22 hi0 hz0 hz1 .i64 .i64 _ _ n rfl rfl rfl rfl I.out M (Nat.le_refl _) ?_); intro w1 own grow)
  have O := Lib.hid (Own.of_row (own_made own))
  have B := Lib.hid ((Below.refl w.heap.size w).grown grow (Nat.le_refl _) (by simp))
  clear own grow
  go_loopw [4] (fun i wr => ∃ k : Nat, k ≤ n ∧ i = .int .i64 k ∧ Hid (Own w.heap.size wr.heap.size wr (some ⟨w.heap.size, 0, none⟩) n n (fill (List.replicate n 0) (fun j => zs.getD j 0) k)) ∧ Hid (Below w.heap.size w wr)) (fun i _ => n - (intOf i).toNat)
  case atStart => exact ⟨0, by omega, rfl, O.out, B.out⟩
  case round =>
    obtain ⟨k, hk, rfl, hO, hB⟩ := hrel
    by_cases hlt : k < n
    · obtain ⟨b, off, z, rfl, hc, hz⟩ := (H.out.below hB.out).get hlt
      obtain ⟨hlo, hhi, z', hc', hf', -⟩ := hO.out.get0 hlt
      have O2 := Lib.hid (hO.out.set0 hlt z)
      have B2 := Lib.hid (hB.out.setCell (p := ⟨w.heap.size, k, none⟩) (Nat.le_refl _) (.int .i64 z))
      go_wp2
      go_roundw
      case rel => exact ⟨k + 1, by omega, by go_num, by show Own _ _ _ _ _ _ _; have := O2.out; rw [hz.out] at this; simpa [fill, World.setCell, hz.out] using this, B2.out⟩
      case measure => simp [intOf]; omega
    · have e : k = n := by omega
      subst e
      go_wp2
      go_ret
      exact ⟨_, _, _, rfl, copy_done L.out hO.out, hB.out⟩
end Go.Proofs.Ytmaapekmndjgiaa
