/-
  Chapter 12: what the program's functions return.
-/
import Derived.Test.YtmfmhhopnmglcaaDoorPfp
import Derived.Test.YtmfmhhopnmglcaaDoorTyn
import Derived.Test.YtmfmhhopnmglcaaDoorPmul
import Derived.Test.YtmfmhhopnmglcaaDoorPthr
import Derived.Test.YtmfmhhopnmglcaaDoorCat
namespace Go.Proofs.YtmfmhhopnmglcaaDoor
open Go.RowKit
set_option linter.unusedVariables false
set_option linter.unusedSimpArgs false
set_option maxRecDepth 20000
theorem impl_ProofLen (k : Int) (w : World) :
    Calls Tryd.prog 29 #[.int .i64 k] w (Bel (.int .i64 (Fp.plen k : Int)) w) := by
  cases hk : Fp.tk k
  · have T : ((Fp.tlen k : Nat) : Int) = 0 := by rw [Fp.tlen_no hk]; rfl
    rw [Fp.plen_no hk]
    go_enter Tryd.func29, Tryd.ntmps29
    go_wp2_with (go_at_call 51; refine (impl_TypeLen _ _).mono ?_; rintro e w1 ⟨rfl, b1⟩; rw [T])
    go_ret
    exact ⟨rfl, b1⟩
  · rcases Fp.tk_cases hk with rfl | rfl | rfl
    all_goals
      clear hk
      go_enter Tryd.func29, Tryd.ntmps29
      go_wp2_with (go_at_call 51; refine (impl_TypeLen _ _).mono ?_; rintro e w1 ⟨rfl, b1⟩; first | rw [show ((Fp.tlen 1 : Nat) : Int) = 1 from rfl] | rw [show ((Fp.tlen 2 : Nat) : Int) = 4 from rfl] | rw [show ((Fp.tlen 3 : Nat) : Int) = 3 from rfl])
      go_ret
      exact ⟨rfl, b1⟩
theorem impl_fits (k : Int) (a : Option Addr) (n cap : Nat) (zs : List Int) (w : World) (h : Sl w a n zs) :
    Calls Tryd.prog 44 #[.int .i64 k, .slice a n cap] w (Bel (.bool (Fp.tvec k zs)) w) := by
  have H := Lib.hid h
  have L := h.len
  clear h
  cases hk : Fp.tk k
  · have T : ((Fp.tlen k : Nat) : Int) = 0 := by rw [Fp.tlen_no hk]; rfl
    rw [Fp.tvec_nk hk]
    clear hk
    go_enter Tryd.func44, Tryd.ntmps44
    go_wp2_with (go_at_call 51; refine (impl_TypeLen _ _).mono ?_; rintro e w1 ⟨rfl, b1⟩; rw [T])
    go_ret
    exact ⟨rfl, b1⟩
  · have T0 : 0 < Fp.tlen k := Fp.tlen_pos hk
    by_cases hn : n = Fp.tlen k
    · have hn' : zs.length = Fp.tlen k := L.trans hn
      have E : Fp.tvec k zs = Fp.sok zs := by simp [Fp.tvec, hk, hn']
      rw [E]
      clear E hk hn' L
      have d1 : ((n : Int) == ((Fp.tlen k : Nat) : Int)) = true := beqT (by omega)
      clear hn
      cases hs : Fp.sok zs
      all_goals
        go_enter Tryd.func44, Tryd.ntmps44
        go_wp2_with (first | (go_at_call 51; refine (impl_TypeLen _ _).mono ?_; rintro e w1 ⟨rfl, b1⟩) | (go_at_call 32; refine (impl_ShareOk _ _ _ _ _ (H.out.below b1)).mono ?_; rintro e w' ⟨rfl, rfl⟩; rw [hs]))
        go_ret
        exact ⟨rfl, b1⟩
    · rw [Fp.tvec_nl (by rw [L]; exact hn)]
      have d1 : ((n : Int) == ((Fp.tlen k : Nat) : Int)) = false := beqF (by omega)
      clear hn hk
      go_enter Tryd.func44, Tryd.ntmps44
      go_wp2_with (go_at_call 51; refine (impl_TypeLen _ _).mono ?_; rintro e w1 ⟨rfl, b1⟩)
      go_ret
      exact ⟨rfl, b1⟩
theorem impl_through (u : Int) (a : Option Addr) (n cap : Nat) (zs : List Int) (c : Int) (w : World) (h : Sl w a n zs) (hu : Fp.ok u = true) (hc' : Fp.ok c = true) (hz : Fp.sok zs = true) (hn : n ≤ 8) :
    Calls Tryd.prog 68 #[.int .i64 u, .slice a n cap, .int .i64 c] w (NewInts (Fp.thr (u :: Fp.less c zs)) w) := by
  have H := Lib.hid h
  have L := Lib.hid h.len
  have Z := Lib.hid (Fp.sok_get hz)
  have P := Lib.hid (Fp.less_pok (c := c) hu (show zs.length ≤ 8 by rw [h.len]; exact hn))
  clear h hz
  go_enter Tryd.func68, Tryd.ntmps68
  go_wp2
  go_loopw [7, 14] (fun v i wr => ∃ (k c' : Nat) (p : Option Addr), k ≤ n ∧ i = .int .i64 k ∧ v = .slice p (k + 1) c' ∧ Hid (wr.ownsRow w.heap.size 3 1 (.slice p (k + 1) c') (k + 1) ((u :: Fp.less c (zs.take k)).map (Value.int .i64))) ∧ Hid (Below w.heap.size w wr)) (fun _ i _ => n - (intOf i).toNat)
  case atStart => exact ⟨0, 1, _, by omega, rfl, rfl, own_lit1 _ _ _ _ (Nat.le_refl _), (Below.refl _ _).alloc (Nat.le_refl _) _⟩
  case round =>
    obtain ⟨k, c', p, hk, rfl, rfl, hO, hB⟩ := hrel
    by_cases hlt : k < n
    · obtain ⟨b, off, z, rfl, hc, hz⟩ := (H.out.below hB.out).get hlt
      have hzo : Fp.ok z = true := by rw [hz.out]; exact Z.out k
      have E := Lib.hid (Fp.less_succ c (v := zs) (k := k) (by rw [L.out]; exact hlt))
      have hsz := hB.out.size
      have hk6 : k + 1 ≤ 1048576 := by omega
      go_wp2_with (first | (go_at_call 82; (with_reducible refine (impl_minus _ _ _ hzo hc').mono ?_); rintro e w' ⟨rfl, rfl⟩) | (at_builtin; (refine wpList_push int_ty rfl (.tmp 18) (.tmp 22) rfl w.heap.size rfl rfl hO.out hk6 hsz ?_); intro g cap' w1 own1 bel1))
      have O1 := Lib.hid own1
      have B1 := Lib.hid (hB.out.trans bel1)
      clear own1 bel1
      go_wp2
      go_roundw
      case rel => exact ⟨k + 1, cap', _, by omega, by go_num, rfl, by rw [E.out, ← hz.out]; exact O1.out, B1.out⟩
      case measure => simp [intOf]; omega
    · have e : k = n := by omega
      subst e
      have T : zs.take k = zs := List.take_of_length_le (by rw [L.out]; exact Nat.le_refl _)
      rw [T] at hO
      have O1 := Lib.hid (Own.of_row hO.out)
      clear hO T
      go_wp2_with (go_at_call 83; (refine (impl_PolyThrough _ _ _ _ _ O1.out.sl).mono ?_); rintro e w1 ⟨a1, n1, c1, rfl, own1, bel1⟩)
      go_ret
      exact ⟨_, _, _, rfl, by rw [thrOf_yes P.out] at own1; exact own1.more hB.out.size (Nat.le_refl _), hB.out.trans (bel1.mono hB.out.size)⟩
end Go.Proofs.YtmfmhhopnmglcaaDoor
