/-
  'append(out, xs...)' onto a row that the call itself made, xs a slice of integers that may be nil or empty; an operation behind a guard that said yes. No program is named here.
-/
import Derived.Test.YtigeffgehckbpabSl
import Derived.Laws.AppendOwnNone
namespace Go.Proofs.Ytigeffgehckbpab
open Go.RowKit
set_option linter.unusedVariables false
set_option linter.unusedSimpArgs false
set_option maxRecDepth 20000
theorem wpList_of_wp {P : Program} {w : World} {ops : Array Oper} {rest : List Oper} {o : Oper} {a : Act} {Q : Exit → Act → World → Prop} (hw : Region.wanted o (yielded ops a.tmps) = true) (h : o.wp P a w (wpList P ops Q rest) Q) : wpList P ops Q (o :: rest) a w := by
  unfold wpList
  rw [if_pos hw]
  exact .inl h
theorem step_of_wp' {P : Program} {ops : Array Oper} {o : Oper} {a : Act} {w : World} {K : Act → World → Prop} {Q : Exit → Act → World → Prop} {E : Prop} (hg : o.guard = none) (h : o.wp P a w K Q) : if Region.wanted o (yielded ops a.tmps) = true then Oper.wp P o a w K Q else E := by
  have hw : Region.wanted o (yielded ops a.tmps) = true := by simp [Region.wanted, hg]
  rw [if_pos hw]
  exact h
/-- Nothing is appended. -/
theorem run_cat_none {P : Program} {w : World} {base : Nat} {t ty e : TypeId} {i : TypeInfo} (ht : P.underlying t = some (.slice e)) (hi : P.info? e = some i) {v : Value} {n c : Nat} {xs : List Value} (h : w.ownsRow base e 1 v n xs) :
    (Builtin.append_ #[t, t] ty #[v, .slice none 0 c]).run P w = .ok v w := by
  obtain ⟨_, h2⟩ := h
  rcases h2 with ⟨hv, hn⟩ | ⟨g, cap, cur, hv, hb, hg, hle, hrest⟩
  · rw [hv]
    simp [Builtin.append_, run_underlying ht, sizeOf, typeInfo, hi, Builtin.lenOf, Builtin.firstCells]
  · rw [hv]
    simp [Builtin.append_, run_underlying ht, sizeOf, typeInfo, hi, Builtin.lenOf, Builtin.firstCells, hle, storeCells]
theorem wp_cat {P : Program} {w : World} {o : Oper} {a : Act} {K : Act → World → Prop} {Q : Exit → Act → World → Prop} {t e : TypeId} (T : IntTy P t e) (s x : Operand)
    (ho : o.op = .call { callee := .builtin .append, args := #[s, x], argTypes := #[t, t] }) (base : Nat) {v0 A : Option Addr} {n cap m c : Nat} {xs zs : List Int}
    (hs : a.eval s = .slice v0 n cap) (hx : a.eval x = .slice A m c) (hown : w.ownsRow base e 1 (.slice v0 n cap) n (xs.map (Value.int .i64))) (hr : Sl w A m zs) (hn : n + m ≤ 1048576) (hb : base ≤ w.heap.size)
    (h : ∀ a' cap' w', w'.ownsRow base e 1 (.slice a' (n + m) cap') (n + m) ((xs ++ zs).map (Value.int .i64)) → Below base w w' → K (a.put o.dst (.slice a' (n + m) cap')) w') : o.wp P a w K Q := by
  obtain ⟨i0, hi0, hz0, hz1, hz2⟩ := info_parts T.info
  cases A with
  | none =>
    have hm : m = 0 := by
      rcases Nat.eq_zero_or_pos m with h0 | h0
      · exact h0
      · obtain ⟨b, off, h1, _⟩ := hr.at_ h0; cases h1
    subst hm
    have hz : zs = [] := List.eq_nil_of_length_eq_zero hr.len
    subst hz
    have hrun := run_cat_none (P := P) (ty := o.type) (c := c) T.sl hi0 hown
    unfold Oper.wp execOp
    simp only [ho, resolve, invoke, builtin, Sem.run_bind, Sem.run_pure, Result.andThen_ok, List.map_toArray, List.map_cons, List.map_nil, hs, hx, hrun]
    exact h _ _ _ (by simpa using hown) (Below.refl _ _)
  | some ad =>
    refine wp_append_own w s x t ho base e i0 _ 1 8 T.sl hi0 hz0 hz1 hz2 rfl (by decide) (.slice v0 n cap) n _ hs hown ad m c (zs.map (Value.int .i64)) hx (by simp [hr.len]) ?_ ?_ (by unfold maxLen; omega) (by omega) hb ?_
    · intro j u hu
      have hj : j < m := by
        rcases Nat.lt_or_ge j m with h' | h'
        · exact h'
        · rw [List.getElem?_eq_none (by simp [hr.len]; omega)] at hu; cases hu
      obtain ⟨b, off, h1, h2⟩ := hr.at_ (by omega)
      injection h1 with h1
      rw [h1, Addr.add_mid, h2 j hj]
      rw [List.getElem?_map, List.getElem?_eq_getElem (by rw [hr.len]; exact hj)] at hu
      simp at hu
      rw [← hu, List.getD_eq_getElem?_getD, List.getElem?_eq_getElem (by rw [hr.len]; exact hj)]; rfl
    · intro u hu
      simp at hu; obtain ⟨z, _, rfl⟩ := hu; rfl
    · intro v' w' g1 g2 _
      obtain ⟨a', cap', rfl⟩ := row_form g1
      exact h a' cap' w' (by simpa using g1) ((Below.refl base w).grown g2 hb (own_block hown))
theorem own_lit1 (base : Nat) (e : TypeId) (w : World) (x : Int) (hb : base ≤ w.heap.size) : (w.alloc (.cells #[.int .i64 x] e)).ownsRow base e 1 (.slice (some ⟨w.heap.size, 0, none⟩) 1 1) 1 ([x].map (Value.int .i64)) :=
  ⟨rfl, .inr ⟨w.heap.size, 1, #[.int .i64 x], rfl, hb, heap_alloc_new w _, Nat.le_refl _, by unfold maxLen; omega, rfl, rfl⟩⟩
theorem wp_push {P : Program} {w : World} {o : Oper} {a : Act} {K : Act → World → Prop} {Q : Exit → Act → World → Prop} {t e : TypeId} (T : IntTy P t e) (s x : Operand)
    (ho : o.op = .call { callee := .builtin .append, args := #[s, x], argTypes := #[t, t] }) (base : Nat) {v0 : Option Addr} {n cap : Nat} {xs : List Int} {z : Int} {ob : TypeId}
    (hs : a.eval s = .slice v0 n cap) (hx : a.eval x = .slice (some ⟨w.heap.size, 0, none⟩) 1 1) (hown : w.ownsRow base e 1 (.slice v0 n cap) n (xs.map (Value.int .i64))) (hn : n ≤ 1048575) (hb : base ≤ w.heap.size)
    (h : ∀ a' cap' w', w'.ownsRow base e 1 (.slice a' (n + 1) cap') (n + 1) ((xs ++ [z]).map (Value.int .i64)) → Below base w w' → K (a.put o.dst (.slice a' (n + 1) cap')) w') : o.wp P a (w.alloc (.cells #[.int .i64 z] ob)) K Q :=
  wp_cat T s x ho base hs hx (hown.alloc _) (sl_one _ _ _) (by omega) (by simp; omega) fun a' cap' w' h1 h2 => h a' cap' w' h1 (((Below.refl base w).alloc hb _).trans h2)
end Go.Proofs.Ytigeffgehckbpab
