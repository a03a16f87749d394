/-
  Rows of fractions in memory: two cells an element.
-/
import Derived.Test.YtigeffgehckbpabSl
import Derived.Test.YtigeffgehckbpabTri
import Derived.ArgAppend
namespace Go.Proofs.Ytigeffgehckbpab
open Go.RowKit
set_option linter.unusedVariables false
set_option linter.unusedSimpArgs false
set_option maxRecDepth 20000
/-- The numbers of fractions, one behind the other. -/
def flat : List (Int × Int) → List Int
  | [] => []
  | f :: fs => f.1 :: f.2 :: flat fs
theorem flat_len : ∀ (fs : List (Int × Int)), (flat fs).length = 2 * fs.length
  | [] => rfl
  | f :: fs => by simp [flat, flat_len fs]; omega
theorem flat_app : ∀ (xs ys : List (Int × Int)), flat (xs ++ ys) = flat xs ++ flat ys
  | [], _ => rfl
  | f :: fs, ys => by simp [flat, flat_app fs ys]
theorem flat_get : ∀ (fs : List (Int × Int)) (k : Nat), (flat fs).getD (2 * k) 0 = (fs.getD k (0, 0)).1 ∧ (flat fs).getD (2 * k + 1) 0 = (fs.getD k (0, 0)).2
  | [], k => by simp [flat]
  | f :: fs, 0 => by simp [flat]
  | f :: fs, k + 1 => by
    have := flat_get fs k
    rw [show 2 * (k + 1) = 2 * k + 1 + 1 by omega]
    simpa [flat] using this
theorem flat_take : ∀ (fs : List (Int × Int)) (k : Nat), flat (fs.take k) = (flat fs).take (2 * k)
  | [], k => by simp [flat]
  | f :: fs, 0 => by simp [flat]
  | f :: fs, k + 1 => by
    rw [show 2 * (k + 1) = 2 * k + 1 + 1 by omega]
    simp [flat, flat_take fs k]
theorem flat_set : ∀ (fs : List (Int × Int)) (k : Nat) (p : Int × Int), flat (fs.set k p) = ((flat fs).set (2 * k) p.1).set (2 * k + 1) p.2
  | [], k, p => by simp [flat]
  | f :: fs, 0, p => by simp [flat]
  | f :: fs, k + 1, p => by
    rw [show 2 * (k + 1) = 2 * k + 1 + 1 by omega]
    simp [flat, flat_set fs k p]
/-- The slice 'a' of n fractions reads as fs. -/
structure Sf (w : World) (a : Option Addr) (n : Nat) (fs : List (Int × Int)) : Prop where
  len : fs.length = n
  row : Sl w a (2 * n) (flat fs)
/-- One that may be written, in a block from lo on, below hi. -/
structure Of (lo hi : Nat) (w : World) (a : Option Addr) (n cap : Nat) (fs : List (Int × Int)) : Prop where
  len : fs.length = n
  le : n ≤ cap
  lim : cap ≤ maxLen
  row : Own lo hi w a (2 * n) (2 * n) (flat fs)
theorem Of.sf {lo hi : Nat} {w : World} {a : Option Addr} {n cap : Nat} {fs : List (Int × Int)} (h : Of lo hi w a n cap fs) : Sf w a n fs := ⟨h.len, h.row.sl⟩
theorem Sf.below {w w' : World} {a : Option Addr} {n : Nat} {fs : List (Int × Int)} (h : Sf w a n fs) (k : Below w.heap.size w w') : Sf w' a n fs := ⟨h.len, h.row.below k⟩
theorem Sf.drewN {w : World} {a : Option Addr} {n : Nat} {fs : List (Int × Int)} (h : Sf w a n fs) (m : Nat) : Sf (w.drewN m) a n fs := ⟨h.len, h.row.drewN m⟩
theorem Of.below {lo hi : Nat} {w w' : World} {a : Option Addr} {n cap : Nat} {fs : List (Int × Int)} (h : Of lo hi w a n cap fs) (k : Below w.heap.size w w') : Of lo hi w' a n cap fs := ⟨h.len, h.le, h.lim, h.row.below k⟩
theorem Of.keep {p : Nat → Prop} {lo hi : Nat} {w w' : World} {a : Option Addr} {n cap : Nat} {fs : List (Int × Int)} (h : Of lo hi w a n cap fs) (k : Chg p w w') (hp : ∀ b, lo ≤ b → b < hi → b < w.heap.size → ¬ p b) : Of lo hi w' a n cap fs := ⟨h.len, h.le, h.lim, h.row.keep k hp⟩
theorem Of.more {lo hi lo' hi' : Nat} {w : World} {a : Option Addr} {n cap : Nat} {fs : List (Int × Int)} (h : Of lo hi w a n cap fs) (h1 : lo' ≤ lo) (h2 : hi ≤ hi') : Of lo' hi' w a n cap fs := ⟨h.len, h.le, h.lim, h.row.more h1 h2⟩
theorem Of.drewN {lo hi : Nat} {w : World} {a : Option Addr} {n cap : Nat} {fs : List (Int × Int)} (h : Of lo hi w a n cap fs) (m : Nat) : Of lo hi (w.drewN m) a n cap fs := ⟨h.len, h.le, h.lim, h.row.drewN m⟩
theorem Of.drew {lo hi : Nat} {w : World} {a : Option Addr} {n cap : Nat} {fs : List (Int × Int)} (h : Of lo hi w a n cap fs) : Of lo hi w.drew a n cap fs := ⟨h.len, h.le, h.lim, h.row.drew⟩
theorem Of.lt {lo hi : Nat} {w : World} {a : Option Addr} {n cap : Nat} {fs : List (Int × Int)} (h : Of lo hi w a n cap fs) : Of lo w.heap.size w a n cap fs := ⟨h.len, h.le, h.lim, h.row.lt⟩
theorem Of.nil (lo hi : Nat) (w : World) (a : Option Addr) (cap : Nat) (h : cap ≤ maxLen) : Of lo hi w a 0 cap [] := ⟨rfl, Nat.zero_le _, h, Own.nil lo hi w a 0 (Nat.zero_le _)⟩
theorem Sf.nil (w : World) (a : Option Addr) : Sf w a 0 [] := ⟨rfl, Sl.nil w a⟩
theorem Sf.get {w : World} {a : Option Addr} {n k : Nat} {fs : List (Int × Int)} (h : Sf w a n fs) (hk : k < n) :
    ∃ b off x y, a = some ⟨b, off, none⟩ ∧ w.cell? ⟨b, off + k * 2, none⟩ = some (.int .i64 x) ∧ w.cell? ⟨b, off + k * 2 + 1, none⟩ = some (.int .i64 y) ∧ Hid ((x, y) = fs.getD k (0, 0)) := by
  obtain ⟨b, off, h1, h2⟩ := h.row.at_ (by omega)
  obtain ⟨g1, g2⟩ := flat_get fs k
  refine ⟨b, off, _, _, h1, ?_, ?_, rfl⟩
  · have := h2 (2 * k) (by omega); rw [g1] at this; rw [Nat.mul_comm]; exact this
  · have := h2 (2 * k + 1) (by omega); rw [g2] at this; rw [Nat.mul_comm, Nat.add_assoc]; exact this
theorem Of.get {lo hi : Nat} {w : World} {a : Option Addr} {n cap k : Nat} {fs : List (Int × Int)} (h : Of lo hi w a n cap fs) (hk : k < n) :
    ∃ b off x y, a = some ⟨b, off, none⟩ ∧ lo ≤ b ∧ b < hi ∧ w.cell? ⟨b, off + k * 2, none⟩ = some (.int .i64 x) ∧ w.cell? ⟨b, off + k * 2 + 1, none⟩ = some (.int .i64 y) ∧ w.frozen? ⟨b, off + k * 2, none⟩ = false ∧ w.frozen? ⟨b, off + k * 2 + 1, none⟩ = false ∧ Hid ((x, y) = fs.getD k (0, 0)) := by
  obtain ⟨b, off, h1, h3, h4, _, h2⟩ := h.row.at_ (by omega)
  obtain ⟨g1, g2⟩ := flat_get fs k
  have a1 := h2 (2 * k) (by omega); rw [g1, Nat.mul_comm] at a1
  have a2 := h2 (2 * k + 1) (by omega); rw [g2, Nat.mul_comm, ← Nat.add_assoc] at a2
  exact ⟨b, off, _, _, h1, h3, h4, a1.1, a2.1, a1.2, a2.2, rfl⟩
theorem Of.set {lo hi : Nat} {w : World} {b off n cap k : Nat} {fs : List (Int × Int)} (h : Of lo hi w (some ⟨b, off, none⟩) n cap fs) (hk : k < n) (x y : Int) :
    Of lo hi ((w.setCell ⟨b, off + k * 2, none⟩ (.int .i64 x)).setCell ⟨b, off + k * 2 + 1, none⟩ (.int .i64 y)) (some ⟨b, off, none⟩) n cap (fs.set k (x, y)) := by
  refine ⟨by rw [List.length_set]; exact h.len, h.le, h.lim, ?_⟩
  have h1 := h.row.set (k := 2 * k) (by omega) x
  have h2 := h1.set (k := 2 * k + 1) (by omega) y
  rw [flat_set]
  rw [Nat.mul_comm 2 k] at h1 h2
  rw [Nat.mul_comm 2 k]
  exact h2
/-- Type t is a slice of e, and e is a struct of two of Go's int. -/
structure FrTy (P : Program) (t e : TypeId) : Prop where
  sl : P.underlying t = some (.slice e)
  info : (P.info? e).map (fun i => (i.zero, i.size, i.bytes)) = some (some (.agg #[.int .i64 0, .int .i64 0]), 2, 16)
theorem infoF {P : Program} {e : TypeId} (h : (P.info? e).map (fun i => (i.zero, i.size, i.bytes)) = some (some (.agg #[.int .i64 0, .int .i64 0]), 2, 16)) : ∃ i, P.info? e = some i ∧ i.zero = some (.agg #[.int .i64 0, .int .i64 0]) ∧ i.size = 2 ∧ i.bytes = 16 := by
  cases hi : P.info? e with
  | none => rw [hi] at h; cases h
  | some i => rw [hi] at h; simp at h; exact ⟨i, rfl, h.1, h.2.1, h.2.2⟩
theorem ofBlock {w : World} {base : Nat} {e : TypeId} {v : Value} {n : Nat} {xs : List Value} (h : w.ownsRow base e 2 v n xs) : ∀ g, v.ownBlock = some g → base ≤ g := by
  intro g hg
  rcases h.2 with ⟨rfl, _⟩ | ⟨g', cap, cur, rfl, hb, _⟩
  · simp [Value.ownBlock] at hg
  · simp [Value.ownBlock] at hg; omega
/-- What 'ownsRow' says, as Of. -/
theorem Of.of_row {base : Nat} {e : TypeId} {w : World} {a : Option Addr} {n cap : Nat} {fs : List (Int × Int)} (h : w.ownsRow base e 2 (.slice a n cap) n ((flat fs).map (Value.int .i64))) (hn : n ≤ 1048577) : Of base w.heap.size w a n cap fs := by
  have hl : (flat fs).length = n * 2 := by have := h.1; simpa using this
  have hl' : fs.length = n := by have := flat_len fs; omega
  have h' := h
  rcases h.2 with ⟨h1, h2⟩ | ⟨g, cap', cur, hv, hb, hh, hle, hsz, hx, ht⟩
  · injection h1 with h1 h2 h3
    subst h1 h2 h3
    obtain rfl : fs = [] := List.eq_nil_of_length_eq_zero hl'
    exact Of.nil _ _ _ _ _ (Nat.zero_le _)
  · injection hv with h1 h2 h3
    subst h1 h3
    have hlt : g < w.heap.size := by
      rcases Nat.lt_or_ge g w.heap.size with h' | h'
      · exact h'
      · rw [Array.getElem?_eq_none h'] at hh; cases hh
    refine ⟨hl', hle, hsz, by omega, Nat.le_refl _, by unfold maxLen; omega, fun hn => ⟨g, 0, rfl, hb, hlt, hlt, fun i hi => ⟨?_, h'.frozenAt (0 + i)⟩⟩⟩
    rw [Nat.zero_add, h'.cellAt i (by omega)]
    simp [List.getElem?_eq_getElem (show i < (flat fs).length by omega)]
theorem ofEmpty (base : Nat) (e : TypeId) (w : World) (hb : base ≤ w.heap.size) : (w.alloc (.cells #[] e)).ownsRow base e 2 (.slice (some ⟨w.heap.size, 0, none⟩) 0 0) 0 ((flat []).map (Value.int .i64)) :=
  ⟨rfl, .inr ⟨w.heap.size, 0, #[], rfl, hb, heap_alloc_new w _, Nat.le_refl _, by unfold maxLen; omega, rfl, rfl⟩⟩
theorem ofNil (base : Nat) (e : TypeId) (w : World) : w.ownsRow base e 2 (.slice none 0 0) 0 ((flat []).map (Value.int .i64)) := ⟨rfl, .inl ⟨rfl, rfl⟩⟩
/-- 'out = append(out, f)', out the call's own. -/
theorem wpList_pushF {P : Program} {w : World} {ops : Array Oper} {rest : List Oper} {o : Oper} {a : Act} {Q : Exit → Act → World → Prop} {t e : TypeId} (T : FrTy P t e) (hgd : o.guard = none) (s x : Operand)
    (ho : o.op = .call { callee := .builtin .append, args := #[s, x], argTypes := #[t, t] }) (base : Nat) {v0 : Option Addr} {n cap : Nat} {fs : List (Int × Int)} {y z : Int} {ob : TypeId}
    (hs : a.eval s = .slice v0 n cap) (hx : a.eval x = .slice (some ⟨w.heap.size, 0, none⟩) 1 1)
    (hown : w.ownsRow base e 2 (.slice v0 n cap) n ((flat fs).map (Value.int .i64))) (hn : n ≤ 1048577) (hb : base ≤ w.heap.size)
    (h : ∀ g cap' w', w'.ownsRow base e 2 (.slice (some ⟨g, 0, none⟩) (n + 1) cap') (n + 1) ((flat (fs ++ [(y, z)])).map (Value.int .i64)) → Below base w w' → wpList P ops Q rest (a.put o.dst (.slice (some ⟨g, 0, none⟩) (n + 1) cap')) w') :
    wpList P ops Q (o :: rest) a (w.alloc (.cells #[.int .i64 y, .int .i64 z] ob)) := by
  obtain ⟨i0, hi0, hz0, hz1, hz2⟩ := infoF T.info
  refine wpList_append_lies _ hgd s x t ho base e i0 _ 2 16 T.sl hi0 hz0 hz1 hz2 rfl (by decide) (.slice v0 n cap) n _ hs (hown.alloc _) ⟨w.heap.size, 0, none⟩ 1 1 [.int .i64 y, .int .i64 z] hx rfl ?_ ?_ (by omega) (by unfold maxLen; omega) (by omega) (by simp; omega) (w.heap.size + 1) (by simp) ?_
  · intro j u hu
    have T2 := Tri.new w [.int .i64 y, .int .i64 z] ob
    rw [show ((⟨w.heap.size, 0, none⟩ : Addr).add j) = ⟨w.heap.size, j, none⟩ by
      cases j <;> simp [Addr.add]]
    exact (T2.at_ j).trans hu
  · intro u hu; simp at hu; rcases hu with rfl | rfl <;> rfl
  · intro g cap' w' h1 h2 _ _
    refine h g cap' w' (by rw [flat_app]; simpa [flat] using h1) ?_
    exact ((Below.refl base w).alloc hb _).grown h2 (by simp; omega) (ofBlock hown)
theorem sf_news {w : World} {ad : Addr} {m : Nat} {zs : List (Int × Int)} (hr : Sf w (some ad) m zs) : ∀ j u, ((flat zs).map (Value.int .i64))[j]? = some u → w.cell? (ad.add j) = some u := by
  intro j u hu
  have hl := hr.row.len
  have hj : j < 2 * m := by
    rcases Nat.lt_or_ge j (2 * m) with h' | h'
    · exact h'
    · rw [List.getElem?_eq_none (by simp [hl]; omega)] at hu; cases hu
  obtain ⟨b, off, h1, h2⟩ := hr.row.at_ (by omega)
  injection h1 with h1
  rw [h1, Addr.add_mid, h2 j hj]
  rw [List.getElem?_map, List.getElem?_eq_getElem (by rw [hl]; exact hj)] at hu
  simp at hu
  rw [← hu, List.getD_eq_getElem?_getD, List.getElem?_eq_getElem (by rw [hl]; exact hj)]; rfl
theorem ofForm {base : Nat} {e : TypeId} {w : World} {v : Value} {n : Nat} {xs : List Value} (h : w.ownsRow base e 2 v n xs) : ∃ a cap, v = .slice a n cap := by
  rcases h.2 with ⟨h1, h2⟩ | ⟨g, cap', cur, hv, _⟩
  · subst h2; exact ⟨none, 0, h1⟩
  · exact ⟨_, _, hv⟩
theorem run_catF_none {P : Program} {w : World} {base : Nat} {t ty e : TypeId} {i : TypeInfo} (ht : P.underlying t = some (.slice e)) (hi : P.info? e = some i) {v : Value} {n c : Nat} {xs : List Value} {A : Option Addr} (h : w.ownsRow base e 2 v n xs) :
    (Builtin.append_ #[t, t] ty #[v, .slice none 0 c]).run P w = .ok v w := by
  obtain ⟨_, h2⟩ := h
  rcases h2 with ⟨hv, hn⟩ | ⟨g, cap, cur, hv, hb, hg, hle, hrest⟩
  · rw [hv]
    simp [Builtin.append_, run_underlying ht, sizeOf, typeInfo, hi, Builtin.lenOf, Builtin.firstCells]
  · rw [hv]
    simp [Builtin.append_, run_underlying ht, sizeOf, typeInfo, hi, Builtin.lenOf, Builtin.firstCells, hle, storeCells]
/-- 'append([]T{}, xs...)': into a row of its own. -/
theorem wp_freshF {P : Program} {w : World} {o : Oper} {a : Act} {K : Act → World → Prop} {Q : Exit → Act → World → Prop} {t e : TypeId} (T : FrTy P t e) (s x : Operand)
    (ho : o.op = .call { callee := .builtin .append, args := #[s, x], argTypes := #[t, t] }) (base : Nat) {g : Nat} {A : Option Addr} {m c : Nat} {zs : List (Int × Int)}
    (hs : a.eval s = .slice (some ⟨g, 0, none⟩) 0 0) (hx : a.eval x = .slice A m c) (hown : w.ownsRow base e 2 (.slice (some ⟨g, 0, none⟩) 0 0) 0 ((flat []).map (Value.int .i64))) (hr : Sf w A m zs) (hm : m ≤ 1048577) (hb : base ≤ w.heap.size)
    (h : ∀ a' cap' w', w'.ownsRow base e 2 (.slice a' m cap') m ((flat zs).map (Value.int .i64)) → Below w.heap.size w w' → K (a.put o.dst (.slice a' m cap')) w') : o.wp P a w K Q := by
  obtain ⟨i0, hi0, hz0, hz1, hz2⟩ := infoF T.info
  cases A with
  | none =>
    have hm0 : m = 0 := by
      rcases Nat.eq_zero_or_pos m with h0 | h0
      · exact h0
      · obtain ⟨b, off, h1, _⟩ := hr.row.at_ (by omega); cases h1
    subst hm0
    have hz : zs = [] := List.eq_nil_of_length_eq_zero hr.len
    subst hz
    have hrun := run_catF_none (P := P) (ty := o.type) (c := c) (A := none) T.sl hi0 hown
    unfold Oper.wp execOp
    simp only [ho, resolve, invoke, builtin, Sem.run_bind, Sem.run_pure, Result.andThen_ok, List.map_toArray, List.map_cons, List.map_nil, hs, hx, hrun]
    exact h _ _ _ hown (Below.refl _ _)
  | some ad =>
    by_cases h0 : m = 0
    · subst h0
      have hz : zs = [] := List.eq_nil_of_length_eq_zero hr.len
      subst hz
      have hrun : (Builtin.append_ #[t, t] o.type #[.slice (some ⟨g, 0, none⟩) 0 0, .slice (some ad) 0 c]).run P w = .ok (.slice (some ⟨g, 0, none⟩) 0 0) w := by
        simp [Builtin.append_, run_underlying T.sl, sizeOf, typeInfo, hi0, Builtin.lenOf, Builtin.firstCells, storeCells, loadCells, loadCellsFrom]
      unfold Oper.wp execOp
      simp only [ho, resolve, invoke, builtin, Sem.run_bind, Sem.run_pure, Result.andThen_ok, List.map_toArray, List.map_cons, List.map_nil, hs, hx, hrun]
      exact h _ _ _ hown (Below.refl _ _)
    · obtain ⟨v', w', hrun, own, grow⟩ := run_append_arg_grows (P := P) w t o.type e i0 _ 2 16 T.sl hi0 hz0 hz1 hz2 rfl (by decide) ⟨g, 0, none⟩ 0 0 [] rfl (by intro j u hu; simp at hu) ad m c ((flat zs).map (Value.int .i64)) (by simp [flat_len, hr.len]; omega) (sf_news hr) (by omega) (by unfold maxLen; omega) (by omega)
      rw [Nat.zero_add, List.nil_append] at own
      obtain ⟨a', cap', rfl⟩ := ofForm own
      have own' : w'.ownsRow base e 2 (.slice a' m cap') m ((flat zs).map (Value.int .i64)) := ⟨own.1, own.2.imp id fun ⟨g', c', cur, q1, q2, q3⟩ => ⟨g', c', cur, q1, Nat.le_trans hb q2, q3⟩⟩
      unfold Oper.wp execOp
      simp only [ho, resolve, invoke, builtin, Sem.run_bind, Sem.run_pure, Result.andThen_ok, List.map_toArray, List.map_cons, List.map_nil, hs, hx, hrun]
      exact h _ _ _ own' ((Below.refl w.heap.size w).grown grow (Nat.le_refl _) (by simp))
/-- 'append(out, f)', at a step of a region. -/
theorem wp_pushF1 {P : Program} {w : World} {o : Oper} {a : Act} {K : Act → World → Prop} {Q : Exit → Act → World → Prop} {t e : TypeId} (T : FrTy P t e) (s x : Operand)
    (ho : o.op = .call { callee := .builtin .append, args := #[s, x], argTypes := #[t, t] }) (base : Nat) {v0 : Option Addr} {n cap k : Nat} {fs : List (Int × Int)} {y z : Int}
    (hs : a.eval s = .slice v0 n cap) (hx : a.eval x = .slice (some ⟨k, 0, none⟩) 1 1) (hown : w.ownsRow base e 2 (.slice v0 n cap) n ((flat fs).map (Value.int .i64))) (hr : Sf w (some ⟨k, 0, none⟩) 1 [(y, z)]) (hn : n ≤ 1048576) (hb : base ≤ w.heap.size)
    (h : ∀ a' cap' w', w'.ownsRow base e 2 (.slice a' (n + 1) cap') (n + 1) ((flat (fs ++ [(y, z)])).map (Value.int .i64)) → Below base w w' → K (a.put o.dst (.slice a' (n + 1) cap')) w') : o.wp P a w K Q := by
  obtain ⟨i0, hi0, hz0, hz1, hz2⟩ := infoF T.info
  refine wp_append_lies w s x t ho base e i0 _ 2 16 T.sl hi0 hz0 hz1 hz2 rfl (by decide) (.slice v0 n cap) n _ hs hown ⟨k, 0, none⟩ 1 1 ((flat [(y, z)]).map (Value.int .i64)) hx rfl (sf_news hr) (by intro u hu; simp [flat] at hu; rcases hu with rfl | rfl <;> rfl) (by omega) (by unfold maxLen; omega) (by omega) hb w.heap.size rfl ?_
  intro g cap' w' h1 h2 _ _
  refine h _ cap' w' (by rw [flat_app, List.map_append]; exact h1) ((Below.refl base w).grown h2 hb (ofBlock hown))
theorem oneF (w : World) (t : TypeId) (x y : Int) : Sf (w.alloc (.cells #[.int .i64 x, .int .i64 y] t)) (some ⟨w.heap.size, 0, none⟩) 1 [(x, y)] := by
  have T := Tri.new w [.int .i64 x, .int .i64 y] t
  refine ⟨rfl, rfl, fun _ => ⟨_, 0, rfl, fun i hi => ?_⟩⟩
  rw [Nat.zero_add, T.at_]
  match i, hi with
  | 0, _ => rfl
  | 1, _ => rfl
theorem oneF' {w : World} {k : Nat} (t : TypeId) (x y : Int) (hk : k = w.heap.size) : Sf (w.alloc (.cells #[.int .i64 x, .int .i64 y] t)) (some ⟨k, 0, none⟩) 1 [(x, y)] := by subst hk; exact oneF w t x y
theorem ofEmpty' {w : World} {base k : Nat} {e : TypeId} (hk : k = w.heap.size) (hb : base ≤ w.heap.size) : (w.alloc (.cells #[] e)).ownsRow base e 2 (.slice (some ⟨k, 0, none⟩) 0 0) 0 ((flat []).map (Value.int .i64)) := by subst hk; exact ofEmpty base e w hb
theorem flat_rep : ∀ (n : Nat) (i : Nat), i < n * 2 → ((flat (List.replicate n ((0 : Int), (0 : Int)))).map (Value.int .i64))[i]? = some (.int .i64 0)
  | 0, i, h => by omega
  | n + 1, 0, h => by simp [List.replicate_succ, flat]
  | n + 1, 1, h => by simp [List.replicate_succ, flat]
  | n + 1, i + 2, h => by
    have := flat_rep n i (by omega)
    simpa [List.replicate_succ, flat] using this
theorem made2 (n : Nat) : (madeCells (Value.agg #[.int .i64 0, .int .i64 0]).cells (n * 2)).toList = (flat (List.replicate n ((0 : Int), (0 : Int)))).map (Value.int .i64) := by
  apply List.ext_getElem?
  intro i
  by_cases h : i < n * 2
  · rw [flat_rep n i h]
    have h2 : i % 2 = 0 ∨ i % 2 = 1 := by omega
    rcases h2 with e | e <;> simp [madeCells, h, Value.cells, e]
  · have hl : ((flat (List.replicate n ((0 : Int), (0 : Int)))).map (Value.int .i64)).length = n * 2 := by
      simp [flat_len]; omega
    rw [List.getElem?_eq_none (l := (madeCells (Value.agg #[.int .i64 0, .int .i64 0]).cells (n * 2)).toList) (by simp [size_madeCells]; omega), List.getElem?_eq_none (by rw [hl]; omega)]
end Go.Proofs.Ytigeffgehckbpab
