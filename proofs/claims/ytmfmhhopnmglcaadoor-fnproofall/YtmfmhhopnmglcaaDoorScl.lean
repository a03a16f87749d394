/-
  Functions of the library's package slices at []int: Equal, Clone, Grow (of nil), Concat (of three).
-/
import Derived.Test.YtmfmhhopnmglcaaDoorLw
import Derived.Test.YtmfmhhopnmglcaaDoorCat
import Derived.OwnWalk
import Derived.Lib.SliceRun
import Derived.Lib.AppendZerosOnto
import Derived.Deep.QuietTactic
import Derived.BigQuiet
namespace Go.Proofs.YtmfmhhopnmglcaaDoor
open Go.RowKit
set_option linter.unusedVariables false
set_option linter.unusedSimpArgs false
set_option maxRecDepth 20000
theorem slices_Equal (a a' : Option Addr) (n n' cap cap' : Nat) (xs ys : List Int) (w : World) (h : Sl w a n xs) (h' : Sl w a' n' ys) (hm : n ≤ 1048576) (hm' : n' ≤ 1048576) :
    Calls Tryd.prog 41 #[.slice a n cap, .slice a' n' cap'] w (Drew (.bool (eqB xs ys)) w) := by
  have H := Lib.hid h
  have H' := Lib.hid h'
  have L := Lib.hid h.len
  have L' := Lib.hid h'.len
  clear h h'
  by_cases e : n = n'
  · subst e
    go_enter Tryd.func41, Tryd.ntmps41
    go_wp2
    go_loopw [13] (fun i wr => ∃ (k m : Nat), k ≤ n ∧ sameTo xs ys k ∧ i = .int .i64 k ∧ Hid (wr = w.drewN m)) (fun i _ => n - (intOf i).toNat)
    case atStart => exact ⟨0, 0, by omega, sameTo_zero _ _, rfl, rfl⟩
    case round =>
      obtain ⟨k, m, hk, ht, rfl, hw⟩ := hrel
      have T := Lib.hid ht
      clear ht
      by_cases hlt : k < n
      · have S := H.out.drewN m
        have S' := H'.out.drewN m
        rw [← hw.out] at S S'
        obtain ⟨b, off, z, rfl, hc, hz⟩ := S.get hlt
        obtain ⟨b', off', z', rfl, hc', hz'⟩ := S'.get hlt
        clear S S'
        by_cases hf : z = z'
        · have T2 := Lib.hid (sameTo_succ T.out (by rw [← hz.out, ← hz'.out]; exact hf))
          subst hf
          go_wp2
          go_quiet (fail)
          go_wp2
          go_roundw
          case rel => exact ⟨k + 1, m + nq, by omega, T2.out, by go_num, by show _ = _; rw [hw.out, World.drewN_drewN]⟩
          case measure => simp [intOf]; omega
        · have E := Lib.hid (eqB_at (xs := xs) (ys := ys) (k := k) (by rw [← hz.out, ← hz'.out]; exact hf))
          have hfb : (z == z') = false := beqF hf
          have hfn : (z != z') = true := by rw [bne, hfb]; rfl
          clear hf
          go_wp2
          go_quiet (fail)
          go_wp2
          go_ret
          exact ⟨by rw [E.out]; rfl, m + nq, by rw [hw.out, World.drewN_drewN]⟩
      · have E := Lib.hid (eqB_all (xs := xs) (ys := ys) (by rw [L.out, L'.out]) (by rw [L.out, ← show k = n by omega]; exact T.out))
        go_wp2
        go_ret
        exact ⟨by rw [E.out]; rfl, m, hw.out⟩
  · have E := Lib.hid (eqB_len (xs := xs) (ys := ys) (by rw [L.out, L'.out]; exact e))
    have hb : ((n : Int) == (n' : Int)) = false := beqF (by omega)
    have hn : ((n : Int) != (n' : Int)) = true := by rw [bne, hb]; rfl
    go_enter Tryd.func41, Tryd.ntmps41
    go_wp2
    go_ret
    exact ⟨by rw [E.out]; rfl, 0, rfl⟩
theorem slices_Clone (a : Option Addr) (n cap : Nat) (zs : List Int) (w : World) (h : Sl w a n zs) (hm : n ≤ 1048576) :
    Calls Tryd.prog 52 #[.slice a n cap] w (NewInts zs w) := by
  have H := Lib.hid h
  cases a with
  | none =>
    have hn : n = 0 := by
      rcases Nat.eq_zero_or_pos n with h0 | h0
      · exact h0
      · obtain ⟨b, off, h1, _⟩ := h.at_ h0; cases h1
    subst hn
    have hz : zs = [] := List.eq_nil_of_length_eq_zero h.len
    subst hz
    have e1 := Lib.run_eql_slice_nil (P := Tryd.prog) w 22 3 none 0 cap 0 0 Tryd.underlying22
    clear h H
    go_enter Tryd.func52, Tryd.ntmps52
    go_wp2
    go_ret
    exact ⟨_, _, _, rfl, Own.nil _ _ _ _ _ (by unfold maxLen; omega), Below.refl _ _⟩
  | some ad =>
    have e1 := Lib.run_eql_slice_nil (P := Tryd.prog) w 22 3 (some ad) n cap 0 0 Tryd.underlying22
    have E := Lib.hid (own_empty w.heap.size 3 w (Nat.le_refl _))
    have S := Lib.hid (H.out.below ((Below.refl _ _).alloc (Nat.le_refl _) (.cells #[] 3)))
    clear h
    go_enter Tryd.func52, Tryd.ntmps52
    go_wp2_with (at_builtin; (refine wpList_of_wp (by rfl) (wp_cat int_ty (.tmp 5) (.tmp 6) rfl w.heap.size (xs := []) rfl rfl E.out S.out (by omega) (by simp) ?_)); intro a5 c5 w5 own5 bel5)
    go_ret
    refine ⟨_, _, _, rfl, Own.of_row (by simpa using own5), ((Below.refl _ _).alloc (Nat.le_refl _) _).trans bel5⟩
/-- append(s, make([]int, k)...) of nil. -/
theorem wp_room {P : Program} {w : World} {o : Oper} {a : Act} {K : Act → World → Prop} {Q : Exit → Act → World → Prop} {t e : TypeId} (T : IntTy P t e) (he : P.underlying e = some (.int .i64)) (s x : Operand)
    (ho : o.op = .call { callee := .builtin .append, args := #[s, x], argTypes := #[t, e] }) (k : Nat) (h0 : 0 < k) (hk : k ≤ 1048576) (hs : a.eval s = .slice none 0 0) (hx : a.eval x = .int .i64 (k : Int))
    (h : ∀ cap cs, k ≤ cap → cap ≤ maxLen → cs.size = cap → K (a.put o.dst (.slice (some ⟨w.heap.size, 0, none⟩) k cap)) (w.drew.alloc (.cells cs e))) : o.wp P a w K Q := by
  obtain ⟨i0, hi0, hz0, hz1, hz2⟩ := info_parts T.info
  have G := Lib.run_append_grow_zeros (P := P) w t e o.type e i0 _ .i64 .i64 T.sl he hi0 hz0 none 0 0 [] (by rw [hz1]; exact run_firstCells_none w.drew 1 0 0 0) k h0 (by omega) (by omega) (by omega) (by rw [hz2]; omega) (by rw [hz2]; have := nextslicecap_le (need := 0 + k) (old := 0) (by omega); omega)
  have c1 := grownCap_ge w (0 + k) 0 e
  have c2 := grownCap_le_maxLen w (0 + k) 0 e (by unfold maxLen; omega)
  rw [Nat.zero_add] at G c1 c2
  unfold Oper.wp execOp
  simp only [ho, resolve, invoke, builtin, Sem.run_bind, Sem.run_pure, Result.andThen_ok, List.map_toArray, List.map_cons, List.map_nil, hs, hx, G]
  refine h _ _ c1 c2 ?_
  simp [Builtin.zeroCells, Value.cells]; omega
/-- A slice of no elements, with room of its own. -/
def Room0 (w : World) (e : Ending) (w' : World) : Prop := ∃ a cap, e = .returned (.slice a 0 cap) ∧ w'.ownsRow w.heap.size 3 1 (.slice a 0 cap) 0 (([] : List Int).map (Value.int .i64)) ∧ Below w.heap.size w w'
theorem slices_Grow (k : Nat) (w : World) (hk : k ≤ 1048576) :
    Calls Tryd.prog 70 #[.slice none 0 0, .int .i64 (k : Int)] w (Room0 w) := by
  by_cases h0 : k = 0
  · subst h0
    go_enter Tryd.func70, Tryd.ntmps70
    go_wp2
    go_ret
    exact ⟨none, 0, rfl, ⟨rfl, .inl ⟨rfl, rfl⟩⟩, Below.refl _ _⟩
  · have hk1 : (0 : Int) < (k : Int) := by omega
    have hk0 : 0 < k := by omega
    go_enter Tryd.func70, Tryd.ntmps70
    go_wp2_with (at_builtin; (refine wpList_of_wp (by rfl) (wp_room int_ty Tryd.underlying3 (.tmp 20) (.tmp 21) rfl k hk0 hk rfl rfl ?_)); intro cap cs c1 c2 c3)
    go_ret
    exact ⟨_, cap, rfl, ⟨rfl, .inr ⟨w.heap.size, cap, cs, rfl, Nat.le_refl _, heap_alloc_new w.drew _, Nat.zero_le _, c2, by omega, rfl⟩⟩, ((Below.refl w.heap.size w).drew).alloc (Nat.le_refl _) _⟩
theorem slices_Concat3 (g : Nat) (a1 a2 a3 : Option Addr) (n1 n2 n3 c1 c2 c3 : Nat) (x1 x2 x3 : List Int) (w : World) (h1 : Sl w a1 n1 x1) (h2 : Sl w a2 n2 x2) (h3 : Sl w a3 n3 x3) (k1 : w.cell? ⟨g, 0, none⟩ = some (.slice a1 n1 c1)) (k2 : w.cell? ⟨g, 1, none⟩ = some (.slice a2 n2 c2)) (k3 : w.cell? ⟨g, 2, none⟩ = some (.slice a3 n3 c3)) (hm : n1 + n2 + n3 ≤ 1000) :
    Calls Tryd.prog 45 #[.slice (some ⟨g, 0, none⟩) 3 3] w (NewInts (x1 ++ x2 ++ x3) w) := by
  have H1 := Lib.hid h1
  have H2 := Lib.hid h2
  have H3 := Lib.hid h3
  have hg := cell_lt k1
  clear h1 h2 h3
  go_enter Tryd.func45, Tryd.ntmps45
  go_wp2
  refine wp_loop_rounds 4 ?_
  rw [rounds_succ]
  go_wp2
  rw [rounds_succ]
  go_wp2
  rw [rounds_succ]
  go_wp2
  rw [rounds_succ]
  go_wp2_with fail
  rw [show ((n1 : Int) + (n2 : Int) + (n3 : Int)) = ((n1 + n2 + n3 : Nat) : Int) by omega]
  refine (slices_Grow _ _ (by omega)).mono ?_
  rintro e w1 ⟨p, cp, rfl, o1, b1⟩
  have k1' : w1.cell? ⟨g, 0, none⟩ = some (.slice a1 n1 c1) := (b1.cell (p := ⟨g, 0, none⟩) hg).trans k1
  have k2' : w1.cell? ⟨g, 1, none⟩ = some (.slice a2 n2 c2) := (b1.cell (p := ⟨g, 1, none⟩) hg).trans k2
  have k3' : w1.cell? ⟨g, 2, none⟩ = some (.slice a3 n3 c3) := (b1.cell (p := ⟨g, 2, none⟩) hg).trans k3
  have O1 := Lib.hid o1
  have B1 := Lib.hid b1
  have S1 := Lib.hid (H1.out.below b1)
  have z1 := b1.size
  clear o1 b1 k1 k2 k3
  go_wp2
  refine wp_loop_rounds 4 ?_
  rw [rounds_succ]
  go_wp2_with (at_builtin; (refine wpList_of_wp (by rfl) (wp_cat int_ty (.tmp 31) (.tmp 32) rfl w.heap.size (xs := []) rfl rfl O1.out S1.out (by omega) z1 ?_)); intro a5 c5 w5 own5 bel5)
  have k2 : w5.cell? ⟨g, 1, none⟩ = some (.slice a2 n2 c2) := (bel5.cell (p := ⟨g, 1, none⟩) hg).trans k2'
  have k3 : w5.cell? ⟨g, 2, none⟩ = some (.slice a3 n3 c3) := (bel5.cell (p := ⟨g, 2, none⟩) hg).trans k3'
  rw [Nat.zero_add, List.nil_append] at own5
  have O5 := Lib.hid own5
  have B5 := Lib.hid (B1.out.trans bel5)
  have S5 := Lib.hid (H2.out.below B5.out)
  have z5 := B5.out.size
  clear own5 bel5 k1' k2' k3' O1
  go_wp2
  rw [rounds_succ]
  go_wp2_with (at_builtin; (refine wpList_of_wp (by rfl) (wp_cat int_ty (.tmp 31) (.tmp 32) rfl w.heap.size (xs := x1) rfl rfl O5.out S5.out (by omega) z5 ?_)); intro a6 c6 w6 own6 bel6)
  have k3' : w6.cell? ⟨g, 2, none⟩ = some (.slice a3 n3 c3) := (bel6.cell (p := ⟨g, 2, none⟩) hg).trans k3
  have O6 := Lib.hid own6
  have B6 := Lib.hid (B5.out.trans bel6)
  have S6 := Lib.hid (H3.out.below B6.out)
  have z6 := B6.out.size
  clear own6 bel6 k2 k3 O5
  go_wp2
  rw [rounds_succ]
  go_wp2_with (at_builtin; (refine wpList_of_wp (by rfl) (wp_cat int_ty (.tmp 31) (.tmp 32) rfl w.heap.size (xs := x1 ++ x2) rfl rfl O6.out S6.out (by omega) z6 ?_)); intro a7 c7 w7 own7 bel7)
  have O7 := Lib.hid own7
  have B7 := Lib.hid (B6.out.trans bel7)
  clear own7 bel7 k3' O6
  go_wp2
  rw [rounds_succ]
  go_wp2
  go_ret
  exact ⟨_, _, _, rfl, by simpa using Own.of_row O7.out, B7.out⟩
end Go.Proofs.YtmfmhhopnmglcaaDoor
