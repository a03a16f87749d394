/-
  Chapter 11: the three types of measurement behind their interface; what the program's functions return.
-/
import Derived.Test.YtmfmhhopnmglcaaDoorTy
import Derived.Test.YtmfmhhopnmglcaaDoorField
import Derived.Test.YtmfmhhopnmglcaaDoorLw
import Derived.Outline
import Derived.StillTailTactics
import Derived.Handy
namespace Go.Proofs.YtmfmhhopnmglcaaDoor
open Go.RowKit
set_option linter.unusedVariables false
set_option linter.unusedSimpArgs false
set_option maxRecDepth 20000
/-- The interface's value of a kind. -/
def mv (k : Int) : Value := if k = 1 then .iface 116 (.agg #[]) else if k = 2 then .iface 117 (.agg #[]) else if k = 3 then .iface 118 (.agg #[]) else .nilIface
theorem impl_measurementOf (k : Int) (w : World) :
    Calls Tryd.prog 74 #[.int .i64 k] w fun e w' => e = .returned (.tuple #[mv k, .bool (Fp.tk k)]) ∧ w = w' := by
  by_cases h1 : k = 1
  · subst h1
    go_enter Tryd.func74, Tryd.ntmps74
    go_wp2
    go_ret2
    exact ⟨rfl, rfl⟩
  by_cases h2 : k = 2
  · subst h2
    go_enter Tryd.func74, Tryd.ntmps74
    go_wp2
    go_ret2
    exact ⟨rfl, rfl⟩
  by_cases h3 : k = 3
  · subst h3
    go_enter Tryd.func74, Tryd.ntmps74
    go_wp2
    go_ret2
    exact ⟨rfl, rfl⟩
  have e1 : Fp.tk k = false := Fp.tk_not (by omega)
  have e2 : mv k = .nilIface := by simp [mv, h1, h2, h3]
  have b1 := beqF h1
  have b2 := beqF h2
  have b3 := beqF h3
  clear h1 h2 h3
  rw [e1, e2]; clear e1 e2
  go_enter Tryd.func74, Tryd.ntmps74
  go_wp2
  go_ret2
  exact ⟨rfl, rfl⟩
theorem impl_mo1 (w : World) : Calls Tryd.prog 74 #[.int .i64 1] w fun e w' => e = .returned (.tuple #[.iface 116 (.agg #[]), .bool true]) ∧ w = w' := impl_measurementOf 1 w
theorem impl_mo2 (w : World) : Calls Tryd.prog 74 #[.int .i64 2] w fun e w' => e = .returned (.tuple #[.iface 117 (.agg #[]), .bool true]) ∧ w = w' := impl_measurementOf 2 w
theorem impl_mo3 (w : World) : Calls Tryd.prog 74 #[.int .i64 3] w fun e w' => e = .returned (.tuple #[.iface 118 (.agg #[]), .bool true]) ∧ w = w' := impl_measurementOf 3 w
theorem impl_mo0 (k : Int) (w : World) (h : Fp.tk k = false) : Calls Tryd.prog 74 #[.int .i64 k] w fun e w' => e = .returned (.tuple #[.nilIface, .bool false]) ∧ w = w' := by
  have e1 := impl_measurementOf k w
  obtain ⟨h1, h2, h3⟩ := Fp.tk_no h
  rw [h, show mv k = .nilIface by simp [mv, h1, h2, h3]] at e1
  exact e1
/-- A call that returned v, and turned nothing that was there. -/
def Bel (v : Value) (w : World) (e : Ending) (w' : World) : Prop := e = .returned v ∧ Below w.heap.size w w'
theorem Bel.below {v : Value} {w : World} {e : Ending} {w' : World} (h : Bel v w e w') : e = .returned v ∧ Below w.heap.size w w' := h
theorem bel_box (w : World) (o : Obj) : Below w.heap.size w (w.alloc o) := (Below.refl _ _).alloc (Nat.le_refl _) o
theorem impl_bit_size (w : World) : Calls Tryd.prog 121 #[.agg #[]] w (Bel (.int .i64 1) w) := by
  go_enter Tryd.func121, Tryd.ntmps121
  go_wp2
  go_ret
  exact ⟨rfl, bel_box _ _⟩
theorem impl_bit_most (w : World) : Calls Tryd.prog 120 #[.agg #[]] w (Bel (.int .i64 1) w) := by
  go_enter Tryd.func120, Tryd.ntmps120
  go_wp2
  go_ret
  exact ⟨rfl, bel_box _ _⟩
theorem impl_pick_size (w : World) : Calls Tryd.prog 124 #[.agg #[]] w (Bel (.int .i64 4) w) := by
  go_enter Tryd.func124, Tryd.ntmps124
  go_wp2
  go_ret
  exact ⟨rfl, bel_box _ _⟩
theorem impl_pick_most (w : World) : Calls Tryd.prog 123 #[.agg #[]] w (Bel (.int .i64 3) w) := by
  go_enter Tryd.func123, Tryd.ntmps123
  go_wp2
  go_ret
  exact ⟨rfl, bel_box _ _⟩
theorem impl_num_size (w : World) : Calls Tryd.prog 127 #[.agg #[]] w (Bel (.int .i64 3) w) := by
  go_enter Tryd.func127, Tryd.ntmps127
  go_wp2
  go_ret
  exact ⟨rfl, bel_box _ _⟩
theorem impl_num_most (w : World) : Calls Tryd.prog 126 #[.agg #[]] w (Bel (.int .i64 7) w) := by
  go_enter Tryd.func126, Tryd.ntmps126
  go_wp2
  go_ret
  exact ⟨rfl, bel_box _ _⟩
theorem impl_bit_digit (x i : Nat) (w : World) (hx : x ≤ 1) (hi : i < 1) : Calls Tryd.prog 119 #[.agg #[], .int .i64 (x : Int), .int .i64 (i : Int)] w (Bel (.int .i64 (Fp.dig 1 x i)) w) := by
  have e : Fp.dig 1 x i = (x : Int) := by
    have : i = 0 := by omega
    subst this
    have : x = 0 ∨ x = 1 := by omega
    rcases this with rfl | rfl <;> rfl
  rw [e]; clear e
  go_enter Tryd.func119, Tryd.ntmps119
  go_wp2
  go_ret
  exact ⟨rfl, bel_box _ _⟩
theorem impl_pick_digit (x i : Nat) (w : World) : Calls Tryd.prog 122 #[.agg #[], .int .i64 (x : Int), .int .i64 (i : Int)] w (Bel (.int .i64 (Fp.dig 2 x i)) w) := by
  by_cases h : x = i
  · have e : Fp.dig 2 x i = 1 := by simp [Fp.dig, h]
    rw [e]; clear e
    have hb : ((x : Int) == (i : Int)) = true := beqT (by omega)
    clear h
    go_enter Tryd.func122, Tryd.ntmps122
    go_wp2
    go_ret
    exact ⟨rfl, bel_box _ _⟩
  · have e : Fp.dig 2 x i = 0 := by simp [Fp.dig, h]
    rw [e]; clear e
    have hb : ((x : Int) == (i : Int)) = false := beqF (by omega)
    clear h
    go_enter Tryd.func122, Tryd.ntmps122
    go_wp2
    go_ret
    exact ⟨rfl, bel_box _ _⟩
theorem num_dig_all : ∀ x : Fin 8, ∀ i : Fin 3, bits .and .i64 ((x.val : Int) / 2 ^ i.val) 1 = Fp.dig 3 x.val i.val := by decide +kernel
theorem num_dig {x i : Nat} (hx : x ≤ 7) (hi : i < 3) : Fp.dig 3 x i = bits .and .i64 ((x : Int) / 2 ^ i) 1 := (num_dig_all ⟨x, by omega⟩ ⟨i, hi⟩).symm
theorem impl_num_digit (x i : Nat) (w : World) (hx : x ≤ 7) (hi : i < 3) : Calls Tryd.prog 125 #[.agg #[], .int .i64 (x : Int), .int .i64 (i : Int)] w (Bel (.int .i64 (Fp.dig 3 x i)) w) := by
  go_enter Tryd.func125, Tryd.ntmps125
  go_wp2
  go_ret
  exact ⟨by rw [num_dig hx hi]; rfl, bel_box _ _⟩
theorem impl_TypeLen (k : Int) (w : World) :
    Calls Tryd.prog 51 #[.int .i64 k] w (Bel (.int .i64 (Fp.tlen k : Int)) w) := by
  cases hk : Fp.tk k
  · rw [Fp.tlen_no hk]
    go_enter Tryd.func51, Tryd.ntmps51
    go_wp2_with (go_at_call 74; refine (impl_mo0 _ _ hk).mono ?_; rintro e w' ⟨rfl, rfl⟩)
    go_ret
    exact ⟨rfl, Below.refl _ _⟩
  · rcases Fp.tk_cases hk with rfl | rfl | rfl
    · clear hk
      go_enter Tryd.func51, Tryd.ntmps51
      go_wp2_with (first | (go_at_call 74; refine (impl_mo1 _).mono ?_; rintro e w' ⟨rfl, rfl⟩) | (go_at_call 121; refine (impl_bit_size _).mono ?_; rintro e w1 ⟨rfl, b1⟩))
      go_ret
      exact ⟨rfl, b1⟩
    · clear hk
      go_enter Tryd.func51, Tryd.ntmps51
      go_wp2_with (first | (go_at_call 74; refine (impl_mo2 _).mono ?_; rintro e w' ⟨rfl, rfl⟩) | (go_at_call 124; refine (impl_pick_size _).mono ?_; rintro e w1 ⟨rfl, b1⟩))
      go_ret
      exact ⟨rfl, b1⟩
    · clear hk
      go_enter Tryd.func51, Tryd.ntmps51
      go_wp2_with (first | (go_at_call 74; refine (impl_mo3 _).mono ?_; rintro e w' ⟨rfl, rfl⟩) | (go_at_call 127; refine (impl_num_size _).mono ?_; rintro e w1 ⟨rfl, b1⟩))
      go_ret
      exact ⟨rfl, b1⟩
theorem impl_encodes1 (x : Nat) (a : Option Addr) (n cap : Nat) (zs : List Int) (w : World) (h : Sl w a n zs) (hx : x ≤ 1) :
    Calls Tryd.prog 75 #[.iface 116 (.agg #[]), .int .i64 (x : Int), .slice a n cap] w (Bel (.bool (eqB zs (Fp.tenc 1 x))) w) := by
  have H := Lib.hid h
  have L := Lib.hid h.len
  clear h
  by_cases hn : n = 1
  · subst hn
    go_enter Tryd.func75, Tryd.ntmps75
    go_wp2_with (go_at_call 121; refine (impl_bit_size _).mono ?_; rintro e w1 ⟨rfl, b1⟩)
    have B1 := Lib.hid b1
    clear b1
    go_loopw [16] (fun i wr => ∃ (j : Nat), j ≤ 1 ∧ Hid (sameTo zs (Fp.tenc 1 x) j) ∧ i = .int .i64 j ∧ Hid (Below w.heap.size w wr)) (fun i _ => 1 - (intOf i).toNat)
    case atStart => exact ⟨0, by omega, sameTo_zero _ _, rfl, B1.out⟩
    case round =>
      clear B1
      obtain ⟨j, hj, T, rfl, B⟩ := hrel
      by_cases hlt : j < 1
      · obtain ⟨b, off, z, rfl, hc, hz⟩ := (H.out.below B.out).get hlt
        have G := Lib.hid (Fp.tenc_get (k := 1) (x := x) (i := j) hlt)
        by_cases hf : z = Fp.dig 1 x j
        · have T2 := Lib.hid (sameTo_succ T.out (by rw [← hz.out, G.out]; exact hf))
          subst hf
          have e1 : (Fp.dig 1 x j != Fp.dig 1 x j) = false := by simp
          go_wp2_with (go_at_call 119; refine (impl_bit_digit x j _ (by omega) (by omega)).mono ?_; rintro e w2 ⟨rfl, b2⟩)
          have B2 := Lib.hid (B.out.trans (b2.mono B.out.size))
          clear b2
          go_roundw
          case rel => exact ⟨j + 1, by omega, T2.out, by go_num, B2.out⟩
          case measure => simp [intOf]; omega
        · have E := Lib.hid (eqB_at (xs := zs) (ys := Fp.tenc 1 x) (k := j) (by rw [← hz.out, G.out]; exact hf))
          have hfn : (z != Fp.dig 1 x j) = true := by rw [bne, beqF hf]; rfl
          clear hf
          go_wp2_with (go_at_call 119; refine (impl_bit_digit x j _ (by omega) (by omega)).mono ?_; rintro e w2 ⟨rfl, b2⟩)
          have B2 := Lib.hid (B.out.trans (b2.mono B.out.size))
          clear b2
          go_ret
          exact ⟨by rw [E.out]; rfl, B2.out⟩
      · have E := Lib.hid (eqB_all (xs := zs) (ys := Fp.tenc 1 x) (by rw [L.out, Fp.tenc_len]; rfl) (by rw [L.out, ← show j = 1 by omega]; exact T.out))
        go_wp2
        go_ret
        exact ⟨by rw [E.out]; rfl, B.out⟩
  · have E := Lib.hid (eqB_len (xs := zs) (ys := Fp.tenc 1 x) (by rw [L.out, Fp.tenc_len]; exact hn))
    have ei : ((n : Int) != 1) = true := by simp; omega
    clear hn
    go_enter Tryd.func75, Tryd.ntmps75
    go_wp2_with (go_at_call 121; refine (impl_bit_size _).mono ?_; rintro e w1 ⟨rfl, b1⟩)
    go_ret
    exact ⟨by rw [E.out]; rfl, b1⟩
theorem impl_encodes2 (x : Nat) (a : Option Addr) (n cap : Nat) (zs : List Int) (w : World) (h : Sl w a n zs) (hx : x ≤ 3) :
    Calls Tryd.prog 75 #[.iface 117 (.agg #[]), .int .i64 (x : Int), .slice a n cap] w (Bel (.bool (eqB zs (Fp.tenc 2 x))) w) := by
  have H := Lib.hid h
  have L := Lib.hid h.len
  clear h
  by_cases hn : n = 4
  · subst hn
    go_enter Tryd.func75, Tryd.ntmps75
    go_wp2_with (go_at_call 124; refine (impl_pick_size _).mono ?_; rintro e w1 ⟨rfl, b1⟩)
    have B1 := Lib.hid b1
    clear b1
    go_loopw [16] (fun i wr => ∃ (j : Nat), j ≤ 4 ∧ Hid (sameTo zs (Fp.tenc 2 x) j) ∧ i = .int .i64 j ∧ Hid (Below w.heap.size w wr)) (fun i _ => 4 - (intOf i).toNat)
    case atStart => exact ⟨0, by omega, sameTo_zero _ _, rfl, B1.out⟩
    case round =>
      clear B1
      obtain ⟨j, hj, T, rfl, B⟩ := hrel
      by_cases hlt : j < 4
      · obtain ⟨b, off, z, rfl, hc, hz⟩ := (H.out.below B.out).get hlt
        have G := Lib.hid (Fp.tenc_get (k := 2) (x := x) (i := j) hlt)
        by_cases hf : z = Fp.dig 2 x j
        · have T2 := Lib.hid (sameTo_succ T.out (by rw [← hz.out, G.out]; exact hf))
          subst hf
          have e1 : (Fp.dig 2 x j != Fp.dig 2 x j) = false := by simp
          go_wp2_with (go_at_call 122; refine (impl_pick_digit x j _).mono ?_; rintro e w2 ⟨rfl, b2⟩)
          have B2 := Lib.hid (B.out.trans (b2.mono B.out.size))
          clear b2
          go_roundw
          case rel => exact ⟨j + 1, by omega, T2.out, by go_num, B2.out⟩
          case measure => simp [intOf]; omega
        · have E := Lib.hid (eqB_at (xs := zs) (ys := Fp.tenc 2 x) (k := j) (by rw [← hz.out, G.out]; exact hf))
          have hfn : (z != Fp.dig 2 x j) = true := by rw [bne, beqF hf]; rfl
          clear hf
          go_wp2_with (go_at_call 122; refine (impl_pick_digit x j _).mono ?_; rintro e w2 ⟨rfl, b2⟩)
          have B2 := Lib.hid (B.out.trans (b2.mono B.out.size))
          clear b2
          go_ret
          exact ⟨by rw [E.out]; rfl, B2.out⟩
      · have E := Lib.hid (eqB_all (xs := zs) (ys := Fp.tenc 2 x) (by rw [L.out, Fp.tenc_len]; rfl) (by rw [L.out, ← show j = 4 by omega]; exact T.out))
        go_wp2
        go_ret
        exact ⟨by rw [E.out]; rfl, B.out⟩
  · have E := Lib.hid (eqB_len (xs := zs) (ys := Fp.tenc 2 x) (by rw [L.out, Fp.tenc_len]; exact hn))
    have ei : ((n : Int) != 4) = true := by simp; omega
    clear hn
    go_enter Tryd.func75, Tryd.ntmps75
    go_wp2_with (go_at_call 124; refine (impl_pick_size _).mono ?_; rintro e w1 ⟨rfl, b1⟩)
    go_ret
    exact ⟨by rw [E.out]; rfl, b1⟩
theorem impl_encodes3 (x : Nat) (a : Option Addr) (n cap : Nat) (zs : List Int) (w : World) (h : Sl w a n zs) (hx : x ≤ 7) :
    Calls Tryd.prog 75 #[.iface 118 (.agg #[]), .int .i64 (x : Int), .slice a n cap] w (Bel (.bool (eqB zs (Fp.tenc 3 x))) w) := by
  have H := Lib.hid h
  have L := Lib.hid h.len
  clear h
  by_cases hn : n = 3
  · subst hn
    go_enter Tryd.func75, Tryd.ntmps75
    go_wp2_with (go_at_call 127; refine (impl_num_size _).mono ?_; rintro e w1 ⟨rfl, b1⟩)
    have B1 := Lib.hid b1
    clear b1
    go_loopw [16] (fun i wr => ∃ (j : Nat), j ≤ 3 ∧ Hid (sameTo zs (Fp.tenc 3 x) j) ∧ i = .int .i64 j ∧ Hid (Below w.heap.size w wr)) (fun i _ => 3 - (intOf i).toNat)
    case atStart => exact ⟨0, by omega, sameTo_zero _ _, rfl, B1.out⟩
    case round =>
      clear B1
      obtain ⟨j, hj, T, rfl, B⟩ := hrel
      by_cases hlt : j < 3
      · obtain ⟨b, off, z, rfl, hc, hz⟩ := (H.out.below B.out).get hlt
        have G := Lib.hid (Fp.tenc_get (k := 3) (x := x) (i := j) hlt)
        by_cases hf : z = Fp.dig 3 x j
        · have T2 := Lib.hid (sameTo_succ T.out (by rw [← hz.out, G.out]; exact hf))
          subst hf
          have e1 : (Fp.dig 3 x j != Fp.dig 3 x j) = false := by simp
          go_wp2_with (go_at_call 125; refine (impl_num_digit x j _ (by omega) (by omega)).mono ?_; rintro e w2 ⟨rfl, b2⟩)
          have B2 := Lib.hid (B.out.trans (b2.mono B.out.size))
          clear b2
          go_roundw
          case rel => exact ⟨j + 1, by omega, T2.out, by go_num, B2.out⟩
          case measure => simp [intOf]; omega
        · have E := Lib.hid (eqB_at (xs := zs) (ys := Fp.tenc 3 x) (k := j) (by rw [← hz.out, G.out]; exact hf))
          have hfn : (z != Fp.dig 3 x j) = true := by rw [bne, beqF hf]; rfl
          clear hf
          go_wp2_with (go_at_call 125; refine (impl_num_digit x j _ (by omega) (by omega)).mono ?_; rintro e w2 ⟨rfl, b2⟩)
          have B2 := Lib.hid (B.out.trans (b2.mono B.out.size))
          clear b2
          go_ret
          exact ⟨by rw [E.out]; rfl, B2.out⟩
      · have E := Lib.hid (eqB_all (xs := zs) (ys := Fp.tenc 3 x) (by rw [L.out, Fp.tenc_len]; rfl) (by rw [L.out, ← show j = 3 by omega]; exact T.out))
        go_wp2
        go_ret
        exact ⟨by rw [E.out]; rfl, B.out⟩
  · have E := Lib.hid (eqB_len (xs := zs) (ys := Fp.tenc 3 x) (by rw [L.out, Fp.tenc_len]; exact hn))
    have ei : ((n : Int) != 3) = true := by simp; omega
    clear hn
    go_enter Tryd.func75, Tryd.ntmps75
    go_wp2_with (go_at_call 127; refine (impl_num_size _).mono ?_; rintro e w1 ⟨rfl, b1⟩)
    go_ret
    exact ⟨by rw [E.out]; rfl, b1⟩
end Go.Proofs.YtmfmhhopnmglcaaDoor
