/-
  The helpers of the laws over slices of integers: comparing, copying, marking, looking at marks.
-/
import Derived.Test.YtbehnbemhnnmfabRows
import Derived.Test.YtbehnbemhnnmfabSl
import Derived.Outline
import Derived.StillTailTactics
namespace Go.Proofs.Ytbehnbemhnnmfab
open Go.RowKit
set_option linter.unusedVariables false
set_option linter.unusedSimpArgs false
theorem int_info : (Try.prog.info? 3).map (fun i => (i.zero, i.size, i.bytes)) = some (some (.int .i64 0), 1, 8) := by kernel_rfl
theorem int_ty : IntTy Try.prog 25 3 := ⟨Try.underlying25, int_info⟩
theorem quiet_l {P : Program} {f : FuncId} {args : Array Value} {W : World} {v : Value} (h : Calls P f args W fun e w' => e = .returned v ∧ W = w') :
    Calls P f args W fun e w' => e = .returned v ∧ w' = W := h.mono fun _ _ ⟨he, hm⟩ => ⟨he, hm.symm⟩
theorem copy_done {lo hi : Nat} {w : World} {a : Option Addr} {n cap : Nat} {zs : List Int} (hl : zs.length = n) (h : Own lo hi w a n cap (fill (List.replicate n 0) (fun i => zs.getD i 0) n)) : Own lo hi w a n cap zs := by
  have e : fill (List.replicate n 0) (fun i => zs.getD i 0) n = zs := by
    have := fill_all (zs := List.replicate n (0 : Int)) (ys := zs) (f := fun i => zs.getD i 0) (by simp [hl]) (fun i hi => rfl)
    simpa using this
  rw [e] at h; exact h
theorem laws_loInts (a a' : Option Addr) (n n' cap cap' : Nat) (xs ys : List Int) (w : World) (h : Sl w a n xs) (h' : Sl w a' n' ys) (hm : n ≤ 1048576) (hm' : n' ≤ 1048576) :
    Calls Try.prog 7 #[.slice a n cap, .slice a' n' cap'] w (Drew (.bool (eqB xs ys)) w) := by
  have H := Lib.hid h
  have H' := Lib.hid h'
  have L := Lib.hid h.len
  have L' := Lib.hid h'.len
  clear h h'
  by_cases e : n = n'
  · subst e
    go_enter Try.func7, Try.ntmps7
    go_wp2
    go_loopw [5] (fun i wr => ∃ (k m : Nat), k ≤ n ∧ sameTo xs ys k ∧ i = .int .i64 k ∧ Hid (wr = w.drewN m)) (fun i _ => n - (intOf i).toNat)
    case atStart => exact ⟨0, 0, by omega, sameTo_zero _ _, rfl, rfl⟩
    case round =>
      obtain ⟨k, m, hk, ht, rfl, hw⟩ := hrel
      have T := Lib.hid ht
      clear ht
      by_cases hlt : k < n
      · have S := H.out.drewN m
        have S' := H'.out.drewN m
        rw [← hw.out] at S S'
        obtain ⟨b, off, z, rfl, hc, hz⟩ := S.get hlt
        obtain ⟨b', off', z', rfl, hc', hz'⟩ := S'.get hlt
        clear S S'
        by_cases hf : z = z'
        · have T2 := Lib.hid (sameTo_succ T.out (by rw [← hz.out, ← hz'.out]; exact hf))
          subst hf
          go_wp2
          go_quiet (fail)
          go_wp2
          go_roundw
          case rel => exact ⟨k + 1, m + nq, by omega, T2.out, by go_num, by show _ = _; rw [hw.out, World.drewN_drewN]⟩
          case measure => simp [intOf]; omega
        · have E := Lib.hid (eqB_at (xs := xs) (ys := ys) (k := k) (by rw [← hz.out, ← hz'.out]; exact hf))
          have hfb : (z == z') = false := beqF hf
          have hfn : (z != z') = true := by rw [bne, hfb]; rfl
          clear hf
          go_wp2
          go_quiet (fail)
          go_wp2
          go_ret
          exact ⟨by rw [E.out]; rfl, m + nq, by rw [hw.out, World.drewN_drewN]⟩
      · have E := Lib.hid (eqB_all (xs := xs) (ys := ys) (by rw [L.out, L'.out]) (by rw [L.out, ← show k = n by omega]; exact T.out))
        go_wp2
        go_ret
        exact ⟨by rw [E.out]; rfl, m, hw.out⟩
  · have E := Lib.hid (eqB_len (xs := xs) (ys := ys) (by rw [L.out, L'.out]; exact e))
    have ei : ((n : Int) != (n' : Int)) = true := by simp; omega
    clear e
    go_enter Try.func7, Try.ntmps7
    go_wp2
    go_ret
    exact ⟨by rw [E.out]; rfl, 0, rfl⟩
theorem laws_loNumI (x : Int) (w : World) (h0 : 0 ≤ x) (h1 : x ≤ 1000000000000000) :
    Calls Try.prog 31 #[.int .i64 x] w fun e w' => e = .returned (.int .i64 (x % 31)) ∧ w = w' := by
  go_enter Try.func31, Try.ntmps31
  go_wp2
  go_ret
  exact ⟨rfl, rfl⟩
/-- So many numbers of a number. -/
def some_ (n : Nat) (many : Nat) : List Int := (List.range many).map fun (i : Nat) => ((n : Int) * ((i : Int) + 3) + (i : Int) * (i : Int)) % 31
theorem some_succ (n k : Nat) : some_ n (k + 1) = some_ n k ++ [((n : Int) * ((k : Int) + 3) + (k : Int) * (k : Int)) % 31] := by simp [some_, List.range_succ]
theorem some_len (n k : Nat) : (some_ n k).length = k := by simp [some_]
theorem prod_bd {a b : Int} {A B : Nat} (a0 : 0 ≤ a) (b0 : 0 ≤ b) (a1 : a ≤ A) (b1 : b ≤ B) : 0 ≤ a * b ∧ a * b ≤ ((A * B : Nat) : Int) := by
  refine ⟨Int.mul_nonneg a0 b0, ?_⟩
  rw [Int.natCast_mul]
  exact Int.mul_le_mul a1 b1 b0 (by omega)
theorem laws_loSome (n many : Nat) (w : World) (hn : n ≤ 2097152) (hm : many ≤ 1000) :
    Calls Try.prog 14 #[.int .i64 (n : Int), .int .i64 (many : Int)] w (NewInts (some_ n many) w) := by
  go_enter Try.func14, Try.ntmps14
  go_wp2
  go_loopw [5, 6] (fun v i wr => ∃ (k cap : Nat) (a : Option Addr), k ≤ many ∧ i = .int .i64 k ∧ v = .slice a k cap ∧ Hid (wr.ownsRow w.heap.size 3 1 (.slice a k cap) k ((some_ n k).map (Value.int .i64))) ∧ Hid (Below w.heap.size w wr)) (fun _ i _ => many - (intOf i).toNat)
  case atStart => exact ⟨0, 0, _, by omega, rfl, rfl, own_empty _ _ _ (Nat.le_refl _), (Below.refl _ _).alloc (Nat.le_refl _) _⟩
  case round =>
    obtain ⟨k, cap, a, hk, rfl, rfl, hO, hB⟩ := hrel
    by_cases hlt : k < many
    · obtain ⟨p0, p1⟩ := prod_bd (a := (n : Int)) (b := (k : Int) + 3) (A := 2097152) (B := 1003) (by omega) (by omega) (by omega) (by omega)
      obtain ⟨p2, p3⟩ := prod_bd (a := (k : Int)) (b := (k : Int)) (A := 1000) (B := 1000) (by omega) (by omega) (by omega) (by omega)
      have hk6 : k ≤ 1048576 := by omega
      have hsz := hB.out.size
      go_wp2_with (first | (go_at_call 31; (with_reducible refine (laws_loNumI _ _ (by omega) (by omega)).mono ?_); rintro e w' ⟨rfl, rfl⟩) | (at_builtin; (refine wpList_push int_ty rfl (.tmp 13) (.tmp 23) rfl w.heap.size rfl rfl hO.out hk6 hsz ?_); intro g cap' w1 own1 bel1))
      have O1 := Lib.hid own1
      have B1 := Lib.hid (hB.out.trans bel1)
      clear own1 bel1
      go_wp2
      go_roundw
      case rel => exact ⟨k + 1, cap', _, by omega, by go_num, rfl, by rw [some_succ]; exact O1.out, B1.out⟩
      case measure => simp [intOf]; omega
    · have e : k = many := by omega
      subst e
      go_wp2
      go_ret
      exact ⟨_, _, _, rfl, Own.of_row hO.out, hB.out⟩
end Go.Proofs.Ytbehnbemhnnmfab
