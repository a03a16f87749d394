/-
  The helpers of the laws over slices of integers: comparing, copying, marking, looking at marks.
-/
import Derived.Test.YtamikccedcffeabDoorRows
import Derived.Test.YtamikccedcffeabDoorSl
import Derived.Outline
import Derived.StillTailTactics
namespace Go.Proofs.YtamikccedcffeabDoor
open Go.RowKit
set_option linter.unusedVariables false
set_option linter.unusedSimpArgs false
theorem int_info : (Tryd.prog.info? 3).map (fun i => (i.zero, i.size, i.bytes)) = some (some (.int .i64 0), 1, 8) := by kernel_rfl
theorem int_ty : IntTy Tryd.prog 23 3 := ⟨Tryd.underlying23, int_info⟩
theorem quiet_l {P : Program} {f : FuncId} {args : Array Value} {W : World} {v : Value} (h : Calls P f args W fun e w' => e = .returned v ∧ W = w') :
    Calls P f args W fun e w' => e = .returned v ∧ w' = W := h.mono fun _ _ ⟨he, hm⟩ => ⟨he, hm.symm⟩
theorem copy_done {lo hi : Nat} {w : World} {a : Option Addr} {n cap : Nat} {zs : List Int} (hl : zs.length = n) (h : Own lo hi w a n cap (fill (List.replicate n 0) (fun i => zs.getD i 0) n)) : Own lo hi w a n cap zs := by
  have e : fill (List.replicate n 0) (fun i => zs.getD i 0) n = zs := by
    have := fill_all (zs := List.replicate n (0 : Int)) (ys := zs) (f := fun i => zs.getD i 0) (by simp [hl]) (fun i hi => rfl)
    simpa using this
  rw [e] at h; exact h
theorem laws_loInts (a a' : Option Addr) (n n' cap cap' : Nat) (xs ys : List Int) (w : World) (h : Sl w a n xs) (h' : Sl w a' n' ys) (hm : n ≤ 1048576) (hm' : n' ≤ 1048576) :
    Calls Tryd.prog 23 #[.slice a n cap, .slice a' n' cap'] w (Drew (.bool (eqB xs ys)) w) := by
  have H := Lib.hid h
  have H' := Lib.hid h'
  have L := Lib.hid h.len
  have L' := Lib.hid h'.len
  clear h h'
  by_cases e : n = n'
  · subst e
    go_enter Tryd.func23, Tryd.ntmps23
    go_wp2
    go_loopw [5] (fun i wr => ∃ (k m : Nat), k ≤ n ∧ sameTo xs ys k ∧ i = .int .i64 k ∧ Hid (wr = w.drewN m)) (fun i _ => n - (intOf i).toNat)
    case atStart => exact ⟨0, 0, by omega, sameTo_zero _ _, rfl, rfl⟩
    case round =>
      obtain ⟨k, m, hk, ht, rfl, hw⟩ := hrel
      have T := Lib.hid ht
      clear ht
      by_cases hlt : k < n
      · have S := H.out.drewN m
        have S' := H'.out.drewN m
        rw [← hw.out] at S S'
        obtain ⟨b, off, z, rfl, hc, hz⟩ := S.get hlt
        obtain ⟨b', off', z', rfl, hc', hz'⟩ := S'.get hlt
        clear S S'
        by_cases hf : z = z'
        · have T2 := Lib.hid (sameTo_succ T.out (by rw [← hz.out, ← hz'.out]; exact hf))
          subst hf
          go_wp2
          go_quiet (fail)
          go_wp2
          go_roundw
          case rel => exact ⟨k + 1, m + nq, by omega, T2.out, by go_num, by show _ = _; rw [hw.out, World.drewN_drewN]⟩
          case measure => simp [intOf]; omega
        · have E := Lib.hid (eqB_at (xs := xs) (ys := ys) (k := k) (by rw [← hz.out, ← hz'.out]; exact hf))
          have hfb : (z == z') = false := beqF hf
          have hfn : (z != z') = true := by rw [bne, hfb]; rfl
          clear hf
          go_wp2
          go_quiet (fail)
          go_wp2
          go_ret
          exact ⟨by rw [E.out]; rfl, m + nq, by rw [hw.out, World.drewN_drewN]⟩
      · have E := Lib.hid (eqB_all (xs := xs) (ys := ys) (by rw [L.out, L'.out]) (by rw [L.out, ← show k = n by omega]; exact T.out))
        go_wp2
        go_ret
        exact ⟨by rw [E.out]; rfl, m, hw.out⟩
  · have E := Lib.hid (eqB_len (xs := xs) (ys := ys) (by rw [L.out, L'.out]; exact e))
    have ei : ((n : Int) != (n' : Int)) = true := by simp; omega
    clear e
    go_enter Tryd.func23, Tryd.ntmps23
    go_wp2
    go_ret
    exact ⟨by rw [E.out]; rfl, 0, rfl⟩
end Go.Proofs.YtamikccedcffeabDoor
