/-
  One round of fill, in company.
-/
import Derived.Test.YtadngncbbbbapaaWorkb
namespace Go.Proofs.Ytadngncbbbbapaa.Lift
open Go.Conc Go.Proofs.Ytadngncbbbbapaa.Crew Go.RowKit
set_option linter.unusedVariables false
set_option linter.unusedSimpArgs false
section
variable {P : Program} {main : Bool} {R : World → World → Prop} {D : World → World → Array Event → Prop}
/-- Through a call of a function value, by the callee's contract. -/
theorem callV (T : Terms R D) {b : Frame} {a : Act} {k : List Item} {cs : List Frame} {w : World} {ops : Array Oper} {i : Nat} {rest : List Nat} {o : Oper} {f : FuncId} {args : Array Value}
    {nf m : Nat} {Post : Value → World → Prop} {Stop : Goroutine → World → Prop}
    (ho : ops[i]? = some o) (hw : Region.wanted o (yielded ops a.tmps) = true) (hk : b.kind ≠ .early) (hrun : ∀ w, (execOp a.eval o).run P w = .ok (.enter f args) w ∧ (execOp a.eval o).events P w #[] = #[])
    (hcall : CallsC P main R D f args nf w Post)
    (hnext : ∀ v w', Post v w' → Goes P main R D Stop m (G (b.at (a.put o.dst v) (.inRegion ops rest :: k)) cs) w') :
    Goes P main R D Stop (m + nf + 3) (G (b.at a (.inRegion ops (i :: rest) :: k)) cs) w := by
  obtain ⟨fn, c, hf, hname, hbody, hwp⟩ := hcall
  have hfin : ∀ v, (b.at a (.inRegion ops (i :: rest) :: k)).finish v = b.at (a.put o.dst v) (.inRegion ops rest :: k) := fun v => by rw [Frame.finish_at, ho]; rfl
  have hleave : ∀ (a' : Act) (w' : World) (todo : List Item), (a'.defers = [] ∧ ∃ v, ResultsC P fn a'.tmps v ∧ Post v w') →
      Goes P main R D Stop (m + 1) (G { (base f).at a' todo with mode := .returning } (b.at a (.inRegion ops (i :: rest) :: k) :: cs)) w' := by
    rintro a' w' todo ⟨hd, v, hr, hp⟩
    refine Goes.step rfl fun w₁ h₁ => ?_
    rw [stepG_leave (b := base f) rfl hd hf (hr w₁).1 (hr w₁).2, hfin]
    exact ⟨T.idle _, (hnext v w' hp).rely T.trans h₁⟩
  have hbodyG : Goes P main R D Stop (m + 2 + nf) (G ((base f).at { tmps := args ++ Array.replicate (fn.ntmps - args.size) undef, defers := [] } [.code c]) (b.at a (.inRegion ops (i :: rest) :: k) :: cs)) w := by
    refine hwp (base f) [] _ Stop (m + 2) rfl (by simp [base]) fun e a' w' q => ?_
    cases e with
    | normal => exact Goes.step rfl fun w₁ h₁ => by rw [stepG_end]; exact ⟨T.idle _, (hleave a' w' [] q).rely T.trans h₁⟩
    | ret => exact fun todo => (hleave a' w' todo q).more
    | exit id => exact q.elim
    | goto l => exact q.elim
    | panic ch => exact q.elim
    | outgrown => exact q.elim
  have e : m + nf + 3 = (m + 2 + nf) + 1 := by omega
  rw [e]
  refine Goes.step rfl fun w₁ h₁ => ?_
  rw [stepG_enter ho hw hk (hrun w₁).1, enter_at _ hf hbody]
  have hl : listed P b.fn a o w₁ = #[] := by unfold listed; rw [(hrun w₁).2]; exact Go.Conc.seen_none P _
  rw [hl]
  exact ⟨T.idle _, hbodyG.rely T.trans h₁⟩
theorem opsC_callV (T : Terms R D) {fn : FuncId} {Q : Exit → Act → World → Prop} {a : Act} {w : World} {ops : Array Oper} {i : Nat} {rest : List Nat} {o : Oper} {f : FuncId} {args : Array Value} {nf n : Nat} {Post : Value → World → Prop}
    (ho : ops[i]? = some o) (hg : o.guard = none) (hrun : ∀ w, (execOp a.eval o).run P w = .ok (.enter f args) w ∧ (execOp a.eval o).events P w #[] = #[])
    (hcall : CallsC P main R D f args nf w Post) (hnext : ∀ v w', Post v w' → OpsC P main R D fn ops rest n Q (a.put o.dst v) w') : OpsC P main R D fn ops (i :: rest) (n + nf + 3) Q a w := by
  intro b k cs Stop m hb hk hc
  have := callV (Stop := Stop) (m := m + n) (b := b) (k := k) (cs := cs) T ho (by unfold Region.wanted; rw [hg]) hk hrun hcall fun v w' hp => hnext v w' hp b k cs Stop m hb hk hc
  exact this.mono (by omega)
end
noncomputable def opsF : Array Oper := match Try.f59.body with | some (.seq _ (.block _ (.loop (.seq _ (.seq _ (.seq (.block _ (.seq _ (.region _ ops _))) _)))))) => ops | _ => #[]
noncomputable def oF (i : Nat) : Oper := opsF.getD i default
theorem oF_size : opsF.size = 14 := by kernel_rfl
theorem oF_at : ∀ i, i < 14 → opsF[i]? = some (oF i)
  | 0, _ => by kernel_rfl
  | 1, _ => by kernel_rfl
  | 2, _ => by kernel_rfl
  | 3, _ => by kernel_rfl
  | 4, _ => by kernel_rfl
  | 5, _ => by kernel_rfl
  | 6, _ => by kernel_rfl
  | 7, _ => by kernel_rfl
  | 8, _ => by kernel_rfl
  | 9, _ => by kernel_rfl
  | 10, _ => by kernel_rfl
  | 11, _ => by kernel_rfl
  | 12, _ => by kernel_rfl
  | 13, _ => by kernel_rfl
  | _ + 14, h => by omega
theorem oF_back : backB opsF = true := by kernel_rfl
theorem oF_dst : dstB opsF 28 = true := by kernel_rfl
/-- The function value of the arithmetic, and what it is. -/
structure IsOp (f : FuncId) (g : Int → Int → Int) : Prop where
  calls : ∀ {R : World → World → Prop} {D : World → World → Array Event → Prop}, Terms R D → ∃ n, ∀ (x y : Int) (w : World), Fp.ok x = true → Fp.ok y = true → CallsC Try.prog false R D f #[.int .i64 x, .int .i64 y] n w fun v w' => v = .int .i64 (g x y) ∧ Since R w w'
  enters : ∀ args (w : World), (callFunc f args).run Try.prog w = .ok (.enter f args) w ∧ (callFunc f args).events Try.prog w #[] = #[]
theorem oF_op11 : (oF 11).op = .call { callee := .value (.tmp 16), args := #[.tmp 20, .tmp 24], argTypes := #[46, 46] } := by kernel_rfl
theorem run_callV {o : Oper} {a : Act} {f : FuncId} {g : Int → Int → Int} (hI : IsOp f g) {c x y : Operand} {ts : Array TypeId} (hop : o.op = .call { callee := .value c, args := #[x, y], argTypes := ts }) (hc : a.eval c = .func (.func f) #[] #[]) {u v : Value} (hx : a.eval x = u) (hy : a.eval y = v) (w : World) : (execOp a.eval o).run Try.prog w = .ok (.enter f #[u, v]) w ∧ (execOp a.eval o).events Try.prog w #[] = #[] := by
  have h := hI.enters #[u, v] w
  unfold execOp
  simp only [hop, hc, hx, hy]
  simp [resolve, Deferred.ofValue, invoke, h, hx, hy, hc]
theorem array28 (T : Array Value) (h : T.size = 28) : ∃ v0 v1 v2 v3 v4 v5 v6 v7 v8 v9 v10 v11 v12 v13 v14 v15 v16 v17 v18 v19 v20 v21 v22 v23 v24 v25 v26 v27 : Value, T = #[v0, v1, v2, v3, v4, v5, v6, v7, v8, v9, v10, v11, v12, v13, v14, v15, v16, v17, v18, v19, v20, v21, v22, v23, v24, v25, v26, v27] := by
  obtain ⟨l⟩ := T
  simp only [List.size_toArray] at h
  rcases l with _ | ⟨v0, l⟩
  · simp at h
  rcases l with _ | ⟨v1, l⟩
  · simp at h
  rcases l with _ | ⟨v2, l⟩
  · simp at h
  rcases l with _ | ⟨v3, l⟩
  · simp at h
  rcases l with _ | ⟨v4, l⟩
  · simp at h
  rcases l with _ | ⟨v5, l⟩
  · simp at h
  rcases l with _ | ⟨v6, l⟩
  · simp at h
  rcases l with _ | ⟨v7, l⟩
  · simp at h
  rcases l with _ | ⟨v8, l⟩
  · simp at h
  rcases l with _ | ⟨v9, l⟩
  · simp at h
  rcases l with _ | ⟨v10, l⟩
  · simp at h
  rcases l with _ | ⟨v11, l⟩
  · simp at h
  rcases l with _ | ⟨v12, l⟩
  · simp at h
  rcases l with _ | ⟨v13, l⟩
  · simp at h
  rcases l with _ | ⟨v14, l⟩
  · simp at h
  rcases l with _ | ⟨v15, l⟩
  · simp at h
  rcases l with _ | ⟨v16, l⟩
  · simp at h
  rcases l with _ | ⟨v17, l⟩
  · simp at h
  rcases l with _ | ⟨v18, l⟩
  · simp at h
  rcases l with _ | ⟨v19, l⟩
  · simp at h
  rcases l with _ | ⟨v20, l⟩
  · simp at h
  rcases l with _ | ⟨v21, l⟩
  · simp at h
  rcases l with _ | ⟨v22, l⟩
  · simp at h
  rcases l with _ | ⟨v23, l⟩
  · simp at h
  rcases l with _ | ⟨v24, l⟩
  · simp at h
  rcases l with _ | ⟨v25, l⟩
  · simp at h
  rcases l with _ | ⟨v26, l⟩
  · simp at h
  rcases l with _ | ⟨v27, l⟩
  · simp at h
  rcases l with _ | ⟨x, l⟩
  · exact ⟨v0, v1, v2, v3, v4, v5, v6, v7, v8, v9, v10, v11, v12, v13, v14, v15, v16, v17, v18, v19, v20, v21, v22, v23, v24, v25, v26, v27, rfl⟩
  · simp at h
section
variable {J : Job} {k : Nat} {s : Str} {j : Nat} {f : FuncId} {g : Int → Int → Int}
/-- What each operation gives. -/
def vF (J : Job) (s : Str) (f : FuncId) (j c1 c2 c3 : Nat) : Nat → Value
  | 0 => .slice (some ⟨J.Ob, s.lo, none⟩) s.m c1
  | 1 => .int .i64 (j : Int)
  | 2 => .func (.func f) #[] #[]
  | 3 => .slice (some ⟨s.ab, s.ao, none⟩) s.m c2
  | 4 => .int .i64 (j : Int)
  | 5 => .pointer (some ⟨s.ab, s.ao + j, none⟩)
  | 6 => .int .i64 (s.X j)
  | 7 => .slice (some ⟨s.bb, s.bo, none⟩) s.m c3
  | 8 => .int .i64 (j : Int)
  | 9 => .pointer (some ⟨s.bb, s.bo + j, none⟩)
  | 10 => .int .i64 (s.Y j)
  | 11 => .int .i64 (J.fx (s.lo + j))
  | 12 => .pointer (some ⟨J.Ob, s.lo + j, none⟩)
  | _ => undef
theorem allF {val : Nat → Value} {a₀ a : Act} {L : Array Bool} (h : Came opsF val a₀ L a) (h13 : L.getD 13 false = true) : ∀ i, i < 13 → L.getD i false = true := by
  have h11 := h.dep h13 (oF_at 13 (by omega)) (j := 11) (by kernel_rfl)
  have h12 := h.dep h13 (oF_at 13 (by omega)) (j := 12) (by kernel_rfl)
  have h2 := h.dep h11 (oF_at 11 (by omega)) (j := 2) (by kernel_rfl)
  have h6 := h.dep h11 (oF_at 11 (by omega)) (j := 6) (by kernel_rfl)
  have h10 := h.dep h11 (oF_at 11 (by omega)) (j := 10) (by kernel_rfl)
  have h5 := h.dep h6 (oF_at 6 (by omega)) (j := 5) (by kernel_rfl)
  have h3 := h.dep h5 (oF_at 5 (by omega)) (j := 3) (by kernel_rfl)
  have h4 := h.dep h5 (oF_at 5 (by omega)) (j := 4) (by kernel_rfl)
  have h9 := h.dep h10 (oF_at 10 (by omega)) (j := 9) (by kernel_rfl)
  have h7 := h.dep h9 (oF_at 9 (by omega)) (j := 7) (by kernel_rfl)
  have h8 := h.dep h9 (oF_at 9 (by omega)) (j := 8) (by kernel_rfl)
  have h0 := h.dep h12 (oF_at 12 (by omega)) (j := 0) (by kernel_rfl)
  have h1 := h.dep h12 (oF_at 12 (by omega)) (j := 1) (by kernel_rfl)
  intro i hi
  match i, hi with
  | 0, _ => exact h0
  | 1, _ => exact h1
  | 2, _ => exact h2
  | 3, _ => exact h3
  | 4, _ => exact h4
  | 5, _ => exact h5
  | 6, _ => exact h6
  | 7, _ => exact h7
  | 8, _ => exact h8
  | 9, _ => exact h9
  | 10, _ => exact h10
  | 11, _ => exact h11
  | 12, _ => exact h12
theorem set13 {L : Array Bool} {i : Nat} (hi : i ≠ 13) : (L.setIfInBounds i true).getD 13 false = L.getD 13 false := by
  rw [Array.getD_eq_getD_getElem?, Array.getElem?_setIfInBounds_ne hi, ← Array.getD_eq_getD_getElem?]
theorem int_sl : Try.prog.underlying 23 = some (.slice 3) := by kernel_rfl
theorem int_inf : (Try.prog.info? 3).map (fun i => (i.zero, i.size, i.bytes)) = some (some (.int .i64 0), 1, 8) := by kernel_rfl
/-- A load of an int. -/
theorem run_load' {fn : FuncId} (hn : (Try.prog.funcs[fn]?).any (·.norace) = false) {o : Oper} {x : Operand} {a : Act} {ad : Addr} {z : Int} (hop : o.op = .load 3 x) (hx : a.eval x = .pointer (some ad)) {w : World} (hc : w.cell? ad = some (.int .i64 z)) : (execOp a.eval o).run Try.prog w = .ok (.value (.int .i64 z)) w ∧ listed Try.prog fn a o w = #[⟨.cell ad, false, false⟩] := by
  have e1 : (execOp a.eval o).run Try.prog w = .ok (.value (.int .i64 z)) w := by unfold execOp; simp only [hop, hx]; simp [go_sem, hc]
  refine ⟨e1, ?_⟩
  have e2 : (execOp a.eval o).events Try.prog w #[] = #[⟨.cell ad, false, false⟩] := by unfold execOp; simp only [hop, hx]; simp [go_sem, hc]
  unfold listed
  rw [e2]
  exact seen_eq hn (by simp)
theorem loudF : (Try.prog.funcs[(59 : Nat)]?).any (·.norace) = false := by kernel_rfl
/-- The temporaries at the beginning of the region. -/
structure AtF (J : Job) (s : Str) (f : FuncId) (j c1 c2 c3 : Nat) (a : Act) : Prop where
  size : a.tmps.size = 28
  t0 : a.eval (.tmp 0) = .slice (some ⟨J.Ob, s.lo, none⟩) s.m c1
  t1 : a.eval (.tmp 1) = .func (.func f) #[] #[]
  t2 : a.eval (.tmp 2) = .slice (some ⟨s.ab, s.ao, none⟩) s.m c2
  t3 : a.eval (.tmp 3) = .slice (some ⟨s.bb, s.bo, none⟩) s.m c3
  t8 : a.eval (.tmp 8) = .int .i64 (j : Int)
set_option maxHeartbeats 1000000 in
theorem round_c (F : s.Fits J k) (hI : IsOp f g) (hfx : ∀ i, i < s.m → J.fx (s.lo + i) = g (s.X i) (s.Y i)) (c1 c2 c3 : Nat) : ∃ N, ∀ (j : Nat), j < s.m → ∀ (Q : Exit → Act → World → Prop) (a₀ : Act) (w : World), AtF J s f j c1 c2 c3 a₀ → FH J k s j w →
    (∀ a w', a.tmps.size = 28 → a.defers = a₀.defers → (∀ t, t < 14 ∨ t = 27 → a.tmps[t]? = a₀.tmps[t]?) → FH J k s (j + 1) w' → Q .normal a w') →
    (Code.region 3 opsF true).wpC Try.prog false (J.RW k) (J.DW k) 59 N Q a₀ w := by
  obtain ⟨nf, hop⟩ := hI.calls (J.termsW k)
  refine ⟨opsF.size * (nf + 3) + 1 + 1, fun j hj Q a₀ w hA hF hQ => ?_⟩
  have hdst : dstB opsF a₀.tmps.size = true := by rw [hA.size]; exact oF_dst
  have T := J.termsW k
  refine wpC_any (I := fun L a w => Came opsF (vF J s f j c1 c2 c3) a₀ L a ∧ ((L.getD 13 false = false ∧ FH J k s j w) ∨ (L.getD 13 false = true ∧ FH J k s (j + 1) w))) T (J.drawW k) (by kernel_rfl) oF_back ?_ ?_ ?_
  · rintro L a w ⟨hC, hw⟩ hall
    have h13 : L.getD 13 false = true := by
      rw [← getD_true_false (by rw [hC.size, oF_size]; omega)]
      exact hall 13 (by rw [oF_size]; omega)
    rcases hw with ⟨h, _⟩ | ⟨_, h⟩
    · rw [h13] at h; cases h
    · refine hQ a w (hC.tmps.trans hA.size) hC.defers (fun t ht => hC.kept t fun i o ho e => ?_) h
      have hi : i < 14 := by have := (Array.getElem?_eq_some_iff.1 ho).1; rwa [oF_size] at this
      rw [oF_at i hi] at ho
      cases ho
      revert e
      rcases ht with ht | ht
      · match i, hi with
        | 0, _ => rw [show (oF 0).dst = some 14 from by kernel_rfl]; intro e; have e' : ((14 : Nat) = (t : Nat)) := Option.some.inj e; omega
        | 1, _ => rw [show (oF 1).dst = some 15 from by kernel_rfl]; intro e; have e' : ((15 : Nat) = (t : Nat)) := Option.some.inj e; omega
        | 2, _ => rw [show (oF 2).dst = some 16 from by kernel_rfl]; intro e; have e' : ((16 : Nat) = (t : Nat)) := Option.some.inj e; omega
        | 3, _ => rw [show (oF 3).dst = some 17 from by kernel_rfl]; intro e; have e' : ((17 : Nat) = (t : Nat)) := Option.some.inj e; omega
        | 4, _ => rw [show (oF 4).dst = some 18 from by kernel_rfl]; intro e; have e' : ((18 : Nat) = (t : Nat)) := Option.some.inj e; omega
        | 5, _ => rw [show (oF 5).dst = some 19 from by kernel_rfl]; intro e; have e' : ((19 : Nat) = (t : Nat)) := Option.some.inj e; omega
        | 6, _ => rw [show (oF 6).dst = some 20 from by kernel_rfl]; intro e; have e' : ((20 : Nat) = (t : Nat)) := Option.some.inj e; omega
        | 7, _ => rw [show (oF 7).dst = some 21 from by kernel_rfl]; intro e; have e' : ((21 : Nat) = (t : Nat)) := Option.some.inj e; omega
        | 8, _ => rw [show (oF 8).dst = some 22 from by kernel_rfl]; intro e; have e' : ((22 : Nat) = (t : Nat)) := Option.some.inj e; omega
        | 9, _ => rw [show (oF 9).dst = some 23 from by kernel_rfl]; intro e; have e' : ((23 : Nat) = (t : Nat)) := Option.some.inj e; omega
        | 10, _ => rw [show (oF 10).dst = some 24 from by kernel_rfl]; intro e; have e' : ((24 : Nat) = (t : Nat)) := Option.some.inj e; omega
        | 11, _ => rw [show (oF 11).dst = some 25 from by kernel_rfl]; intro e; have e' : ((25 : Nat) = (t : Nat)) := Option.some.inj e; omega
        | 12, _ => rw [show (oF 12).dst = some 26 from by kernel_rfl]; intro e; have e' : ((26 : Nat) = (t : Nat)) := Option.some.inj e; omega
        | 13, _ => rw [show (oF 13).dst = none from by kernel_rfl]; intro e; cases e
      · subst ht
        match i, hi with
        | 0, _ => rw [show (oF 0).dst = some 14 from by kernel_rfl]; intro e; exact absurd (Option.some.inj e) (by decide)
        | 1, _ => rw [show (oF 1).dst = some 15 from by kernel_rfl]; intro e; exact absurd (Option.some.inj e) (by decide)
        | 2, _ => rw [show (oF 2).dst = some 16 from by kernel_rfl]; intro e; exact absurd (Option.some.inj e) (by decide)
        | 3, _ => rw [show (oF 3).dst = some 17 from by kernel_rfl]; intro e; exact absurd (Option.some.inj e) (by decide)
        | 4, _ => rw [show (oF 4).dst = some 18 from by kernel_rfl]; intro e; exact absurd (Option.some.inj e) (by decide)
        | 5, _ => rw [show (oF 5).dst = some 19 from by kernel_rfl]; intro e; exact absurd (Option.some.inj e) (by decide)
        | 6, _ => rw [show (oF 6).dst = some 20 from by kernel_rfl]; intro e; exact absurd (Option.some.inj e) (by decide)
        | 7, _ => rw [show (oF 7).dst = some 21 from by kernel_rfl]; intro e; exact absurd (Option.some.inj e) (by decide)
        | 8, _ => rw [show (oF 8).dst = some 22 from by kernel_rfl]; intro e; exact absurd (Option.some.inj e) (by decide)
        | 9, _ => rw [show (oF 9).dst = some 23 from by kernel_rfl]; intro e; exact absurd (Option.some.inj e) (by decide)
        | 10, _ => rw [show (oF 10).dst = some 24 from by kernel_rfl]; intro e; exact absurd (Option.some.inj e) (by decide)
        | 11, _ => rw [show (oF 11).dst = some 25 from by kernel_rfl]; intro e; exact absurd (Option.some.inj e) (by decide)
        | 12, _ => rw [show (oF 12).dst = some 26 from by kernel_rfl]; intro e; exact absurd (Option.some.inj e) (by decide)
        | 13, _ => rw [show (oF 13).dst = none from by kernel_rfl]; intro e; cases e
  · rintro L a w i ⟨hC, hw⟩ hr rest m hnext
    obtain ⟨hun, o', ho', _⟩ := mem_ready.1 hr
    have hi : i < 14 := by have := (Array.getElem?_eq_some_iff.1 ho').1; rwa [oF_size] at this
    have hun' : L.getD i false = false := by rw [← getD_true_false (by rw [hC.size, oF_size]; exact hi)]; exact hun
    have hFw : FH J k s j w ∧ L.getD 13 false = false := by
      rcases hw with ⟨h1, h2⟩ | ⟨h1, h2⟩
      · exact ⟨h2, h1⟩
      · exfalso
        rcases Nat.lt_or_ge i 13 with h | h
        · rw [allF hC h1 i h] at hun'; cases hun'
        · obtain rfl : i = 13 := by omega
          rw [h1] at hun'; cases hun'
    clear hw
    obtain ⟨hF, h13⟩ := hFw
    have fin : ∀ (d : Tmp) (hd : (oF i).dst = some d) (h : i ≠ 13) (w₁ : World), J.RW k w w₁ → OpsC Try.prog false (J.RW k) (J.DW k) 59 opsF rest m Q (a.put (oF i).dst (vF J s f j c1 c2 c3 i)) w₁ := fun d hd h w₁ r =>
      hnext _ _ ⟨hC.put hdst hr (oF_at i hi) hd, .inl ⟨by rw [set13 h]; exact h13, hF.rely F r⟩⟩
    have idle : ∀ (w₁ : World) (es : Array Event), es = #[] → J.DW k w₁ w₁ es := fun w₁ es e => e ▸ T.idle w₁
    match i, hi with
    | 0, hi => exact opsC_more (step_val (v := vF J s f j c1 c2 c3 0) (oF_at 0 hi) (by kernel_rfl) (fun w₁ r => by
        have e := run_move' (P := Try.prog) (fn := 59) (a := a) (o := oF 0) (x := .tmp 0) (by kernel_rfl) ((hC.old (by kernel_rfl)).trans hA.t0) w₁
        exact ⟨e.1, idle _ _ e.2⟩) (fin 14 (by kernel_rfl) (by omega))) (by omega)
    | 1, hi => exact opsC_more (step_val (v := vF J s f j c1 c2 c3 1) (oF_at 1 hi) (by kernel_rfl) (fun w₁ r => by
        have e := run_move' (P := Try.prog) (fn := 59) (a := a) (o := oF 1) (x := .tmp 8) (by kernel_rfl) ((hC.old (by kernel_rfl)).trans hA.t8) w₁
        exact ⟨e.1, idle _ _ e.2⟩) (fin 15 (by kernel_rfl) (by omega))) (by omega)
    | 2, hi => exact opsC_more (step_val (v := vF J s f j c1 c2 c3 2) (oF_at 2 hi) (by kernel_rfl) (fun w₁ r => by
        have e := run_move' (P := Try.prog) (fn := 59) (a := a) (o := oF 2) (x := .tmp 1) (by kernel_rfl) ((hC.old (by kernel_rfl)).trans hA.t1) w₁
        exact ⟨e.1, idle _ _ e.2⟩) (fin 16 (by kernel_rfl) (by omega))) (by omega)
    | 3, hi => exact opsC_more (step_val (v := vF J s f j c1 c2 c3 3) (oF_at 3 hi) (by kernel_rfl) (fun w₁ r => by
        have e := run_move' (P := Try.prog) (fn := 59) (a := a) (o := oF 3) (x := .tmp 2) (by kernel_rfl) ((hC.old (by kernel_rfl)).trans hA.t2) w₁
        exact ⟨e.1, idle _ _ e.2⟩) (fin 17 (by kernel_rfl) (by omega))) (by omega)
    | 4, hi => exact opsC_more (step_val (v := vF J s f j c1 c2 c3 4) (oF_at 4 hi) (by kernel_rfl) (fun w₁ r => by
        have e := run_move' (P := Try.prog) (fn := 59) (a := a) (o := oF 4) (x := .tmp 8) (by kernel_rfl) ((hC.old (by kernel_rfl)).trans hA.t8) w₁
        exact ⟨e.1, idle _ _ e.2⟩) (fin 18 (by kernel_rfl) (by omega))) (by omega)
    | 5, hi => exact opsC_more (step_val (v := vF J s f j c1 c2 c3 5) (oF_at 5 hi) (by kernel_rfl) (fun w₁ r => by
        have e := run_index' (P := Try.prog) (fn := 59) (a := a) (o := oF 5) (x := .tmp 17) (y := .tmp 18) (by kernel_rfl) int_sl int_inf (hC.at_ (oF_at 3 (by omega)) (d := 17) (by kernel_rfl) (ready_dep hr (oF_at _ hi) (j := 3) (by kernel_rfl))) (hC.at_ (oF_at 4 (by omega)) (d := 18) (by kernel_rfl) (ready_dep hr (oF_at _ hi) (j := 4) (by kernel_rfl))) hj w₁
        exact ⟨e.1, idle _ _ e.2⟩) (fin 19 (by kernel_rfl) (by omega))) (by omega)
    | 6, hi => exact opsC_more (step_val (v := vF J s f j c1 c2 c3 6) (oF_at 6 hi) (by kernel_rfl) (fun w₁ r => by
        have e := run_load' loudF (a := a) (o := oF 6) (x := .tmp 19) (by kernel_rfl) (hC.at_ (oF_at 5 (by omega)) (d := 19) (by kernel_rfl) (ready_dep hr (oF_at _ hi) (j := 5) (by kernel_rfl))) ((hF.rely F r).xa j hj)
        exact ⟨e.1, by rw [e.2]; exact J.readW k _ (fun x hx => by rw [Array.mem_singleton] at hx; subst hx; exact J.evR F.fit F.old F.last F.a1 F.a2 F.a3 F.a4)⟩) (fin 20 (by kernel_rfl) (by omega))) (by omega)
    | 7, hi => exact opsC_more (step_val (v := vF J s f j c1 c2 c3 7) (oF_at 7 hi) (by kernel_rfl) (fun w₁ r => by
        have e := run_move' (P := Try.prog) (fn := 59) (a := a) (o := oF 7) (x := .tmp 3) (by kernel_rfl) ((hC.old (by kernel_rfl)).trans hA.t3) w₁
        exact ⟨e.1, idle _ _ e.2⟩) (fin 21 (by kernel_rfl) (by omega))) (by omega)
    | 8, hi => exact opsC_more (step_val (v := vF J s f j c1 c2 c3 8) (oF_at 8 hi) (by kernel_rfl) (fun w₁ r => by
        have e := run_move' (P := Try.prog) (fn := 59) (a := a) (o := oF 8) (x := .tmp 8) (by kernel_rfl) ((hC.old (by kernel_rfl)).trans hA.t8) w₁
        exact ⟨e.1, idle _ _ e.2⟩) (fin 22 (by kernel_rfl) (by omega))) (by omega)
    | 9, hi => exact opsC_more (step_val (v := vF J s f j c1 c2 c3 9) (oF_at 9 hi) (by kernel_rfl) (fun w₁ r => by
        have e := run_index' (P := Try.prog) (fn := 59) (a := a) (o := oF 9) (x := .tmp 21) (y := .tmp 22) (by kernel_rfl) int_sl int_inf (hC.at_ (oF_at 7 (by omega)) (d := 21) (by kernel_rfl) (ready_dep hr (oF_at _ hi) (j := 7) (by kernel_rfl))) (hC.at_ (oF_at 8 (by omega)) (d := 22) (by kernel_rfl) (ready_dep hr (oF_at _ hi) (j := 8) (by kernel_rfl))) hj w₁
        exact ⟨e.1, idle _ _ e.2⟩) (fin 23 (by kernel_rfl) (by omega))) (by omega)
    | 10, hi => exact opsC_more (step_val (v := vF J s f j c1 c2 c3 10) (oF_at 10 hi) (by kernel_rfl) (fun w₁ r => by
        have e := run_load' loudF (a := a) (o := oF 10) (x := .tmp 23) (by kernel_rfl) (hC.at_ (oF_at 9 (by omega)) (d := 23) (by kernel_rfl) (ready_dep hr (oF_at _ hi) (j := 9) (by kernel_rfl))) ((hF.rely F r).yb j hj)
        exact ⟨e.1, by rw [e.2]; exact J.readW k _ (fun x hx => by rw [Array.mem_singleton] at hx; subst hx; exact J.evR F.fit F.old F.last F.b1 F.b2 F.b3 F.b4)⟩) (fin 24 (by kernel_rfl) (by omega))) (by omega)
    | 11, hi => exact opsC_more (opsC_callV T (oF_at 11 hi) (by kernel_rfl) (run_callV hI oF_op11 (hC.at_ (oF_at 2 (by omega)) (d := 16) (by kernel_rfl) (ready_dep hr (oF_at _ hi) (j := 2) (by kernel_rfl))) (hC.at_ (oF_at 6 (by omega)) (d := 20) (by kernel_rfl) (ready_dep hr (oF_at _ hi) (j := 6) (by kernel_rfl))) (hC.at_ (oF_at 10 (by omega)) (d := 24) (by kernel_rfl) (ready_dep hr (oF_at _ hi) (j := 10) (by kernel_rfl)))) (hop (s.X j) (s.Y j) w (F.okX j hj) (F.okY j hj)) (fun v w' hp => by
        obtain ⟨rfl, hS⟩ := hp
        have h := hnext (a.put (oF 11).dst (vF J s f j c1 c2 c3 11)) w' ⟨hC.put hdst hr (oF_at 11 hi) (d := 25) (by kernel_rfl), .inl ⟨by rw [set13 (by omega)]; exact h13, hS.elim (fun e => e ▸ hF) fun r => hF.rely F r⟩⟩
        have e : vF J s f j c1 c2 c3 11 = .int .i64 (g (s.X j) (s.Y j)) := by show Value.int .i64 (J.fx (s.lo + j)) = _; rw [hfx j hj]
        rw [e] at h
        exact h)) (by omega)
    | 12, hi => exact opsC_more (step_val (v := vF J s f j c1 c2 c3 12) (oF_at 12 hi) (by kernel_rfl) (fun w₁ r => by
        have e := run_index' (P := Try.prog) (fn := 59) (a := a) (o := oF 12) (x := .tmp 14) (y := .tmp 15) (by kernel_rfl) int_sl int_inf (hC.at_ (oF_at 0 (by omega)) (d := 14) (by kernel_rfl) (ready_dep hr (oF_at _ hi) (j := 0) (by kernel_rfl))) (hC.at_ (oF_at 1 (by omega)) (d := 15) (by kernel_rfl) (ready_dep hr (oF_at _ hi) (j := 1) (by kernel_rfl))) hj w₁
        exact ⟨e.1, idle _ _ e.2⟩) (fin 26 (by kernel_rfl) (by omega))) (by omega)
    | 13, hi =>
      refine opsC_more (n := m + 1) (opsC_cons (oF_at 13 hi) (by kernel_rfl) fun w₁ r => ?_) (by omega)
      have hF₁ := hF.rely F r
      obtain ⟨⟨u, hu⟩, hz⟩ := hF₁.out j hj
      have hop13 : (oF 13).op = .store 3 (.tmp 26) (.tmp 25) := by kernel_rfl
      have hx : a.eval (.tmp 26) = .pointer (some ⟨J.Ob, s.lo + j, none⟩) := (hC.at_ (oF_at 12 (by omega)) (d := 26) (by kernel_rfl) (ready_dep hr (oF_at _ hi) (j := 12) (by kernel_rfl)))
      have hy : a.eval (.tmp 25) = .int .i64 (J.fx (s.lo + j)) := (hC.at_ (oF_at 11 (by omega)) (d := 25) (by kernel_rfl) (ready_dep hr (oF_at _ hi) (j := 11) (by kernel_rfl)))
      have e1 : (execOp a.eval (oF 13)).run Try.prog w₁ = .ok .skip (w₁.setCell ⟨J.Ob, s.lo + j, none⟩ (.int .i64 (J.fx (s.lo + j)))) := by
        unfold execOp
        simp only [hop13, hx, hy]
        simp [go_sem, stored, hu, hz]
      have e2 : (execOp a.eval (oF 13)).events Try.prog w₁ #[] = #[⟨.cell ⟨J.Ob, s.lo + j, none⟩, true, false⟩] := by
        unfold execOp
        simp only [hop13, hx, hy]
        simp [go_sem, storedEv, hu, hz]
      have e3 : listed Try.prog 59 a (oF 13) w₁ = #[⟨.cell ⟨J.Ob, s.lo + j, none⟩, true, false⟩] := by
        unfold listed
        rw [e2]
        exact seen_eq loudF (by simp)
      rw [e1, e3]
      have hd13 : (oF 13).dst = none := by kernel_rfl
      refine ⟨hF₁.dw F hj, ?_⟩
      rw [hd13]
      refine hnext a _ ⟨hC.put0 hr (oF_at 13 hi) hd13, .inr ⟨?_, hF₁.store F hj⟩⟩
      rw [Array.getD_eq_getD_getElem?, Array.getElem?_setIfInBounds_self_of_lt (by rw [hC.size, oF_size]; omega)]
      rfl
  · exact fun w₁ r => ⟨Came.start _ _, .inl ⟨by rw [Array.getD_eq_getD_getElem?, Array.getElem?_replicate]; split <;> rfl, (hF.rely F r).rely F (J.relyDraw k _)⟩⟩
end
end Go.Proofs.Ytadngncbbbbapaa.Lift
