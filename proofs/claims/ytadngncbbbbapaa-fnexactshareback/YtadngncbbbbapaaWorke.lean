/-
  A worker: from its birth to its release.
-/
import Derived.Test.YtadngncbbbbapaaWorkd
namespace Go.Proofs.Ytadngncbbbbapaa.Lift
open Go.Conc Go.Proofs.Ytadngncbbbbapaa.Crew Go.RowKit
set_option linter.unusedVariables false
set_option linter.unusedSimpArgs false
/-- Where a worker's variables lie, and the whole slices. -/
structure Bxs where
  ou : Nat
  fr : Nat
  to : Nat
  op : Nat
  a : Nat
  b : Nat
  ao : Nat
  bo : Nat
  ca : Nat
  cb : Nat
def Kpt (J : Job) (k b : Nat) : Prop := b ≠ J.Wg ∧ b ≠ J.Ob ∧ ¬ J.S b ∧ b < J.top k
structure Bxs.Fits (J : Job) (k : Nat) (s : Str) (B : Bxs) : Prop where
  str : s.Fits J k
  ou : Kpt J k B.ou
  fr : Kpt J k B.fr
  to : Kpt J k B.to
  op : Kpt J k B.op
  a : Kpt J k B.a
  b : Kpt J k B.b
  pos : 0 < s.m
  hi : s.lo + s.m ≤ J.n
  ca : J.n ≤ B.ca
  cb : J.n ≤ B.cb
  ao : s.ao = B.ao + s.lo
  bo : s.bo = B.bo + s.lo
  n : J.n ≤ 100
structure WK (J : Job) (k : Nat) (s : Str) (f : FuncId) (B : Bxs) (w : World) : Prop where
  fh : FH J k s 0 w
  ou : w.cell? ⟨B.ou, 0, none⟩ = some (.slice (some ⟨J.Ob, 0, none⟩) J.n J.n)
  fr : w.cell? ⟨B.fr, 0, none⟩ = some (.int .i64 (s.lo : Int))
  to : w.cell? ⟨B.to, 0, none⟩ = some (.int .i64 ((s.lo + s.m : Nat) : Int))
  op : w.cell? ⟨B.op, 0, none⟩ = some (.func (.func f) #[] #[])
  a : w.cell? ⟨B.a, 0, none⟩ = some (.slice (some ⟨s.ab, B.ao, none⟩) J.n B.ca)
  b : w.cell? ⟨B.b, 0, none⟩ = some (.slice (some ⟨s.bb, B.bo, none⟩) J.n B.cb)
section
variable {J : Job} {k : Nat} {s : Str} {f : FuncId} {g : Int → Int → Int} {B : Bxs} {w w₁ : World}
theorem Kpt.same {b : Nat} (h : Kpt J k b) (r : J.RW k w w₁) : w₁.cell? ⟨b, 0, none⟩ = w.cell? ⟨b, 0, none⟩ := World.cell?_of_block (r.block b h.1 h.2.1 h.2.2.2)
theorem WK.rely (F : B.Fits J k s) (h : WK J k s f B w) (r : J.RW k w w₁) : WK J k s f B w₁ :=
  ⟨h.fh.rely F.str r, (F.ou.same r).trans h.ou, (F.fr.same r).trans h.fr, (F.to.same r).trans h.to, (F.op.same r).trans h.op, (F.a.same r).trans h.a, (F.b.same r).trans h.b⟩
noncomputable def opsW : Array Oper := match Try.f57.body with | some (.seq _ (.region _ ops _)) => ops | _ => #[]
noncomputable def oW (i : Nat) : Oper := opsW.getD i default
theorem oW_size : opsW.size = 14 := by kernel_rfl
theorem oW_at : ∀ i, i < 14 → opsW[i]? = some (oW i)
  | 0, _ => by kernel_rfl
  | 1, _ => by kernel_rfl
  | 2, _ => by kernel_rfl
  | 3, _ => by kernel_rfl
  | 4, _ => by kernel_rfl
  | 5, _ => by kernel_rfl
  | 6, _ => by kernel_rfl
  | 7, _ => by kernel_rfl
  | 8, _ => by kernel_rfl
  | 9, _ => by kernel_rfl
  | 10, _ => by kernel_rfl
  | 11, _ => by kernel_rfl
  | 12, _ => by kernel_rfl
  | 13, _ => by kernel_rfl
  | _ + 14, h => by omega
theorem oW_back : backB opsW = true := by kernel_rfl
theorem oW_dst : dstB opsW 21 = true := by kernel_rfl
theorem loudW : (Try.prog.funcs[(57 : Nat)]?).any (·.norace) = false := by kernel_rfl
/-- Loads of one cell. -/
theorem run_loadS {fn : FuncId} (hn : (Try.prog.funcs[fn]?).any (·.norace) = false) {o : Oper} {x : Operand} {a : Act} {ad : Addr} {p : Option Addr} {l c : Nat} (hop : o.op = .load 23 x) (hx : a.eval x = .pointer (some ad)) {w : World} (hc : w.cell? ad = some (.slice p l c)) : (execOp a.eval o).run Try.prog w = .ok (.value (.slice p l c)) w ∧ listed Try.prog fn a o w = #[⟨.cell ad, false, false⟩] := by
  have e1 : (execOp a.eval o).run Try.prog w = .ok (.value (.slice p l c)) w := by unfold execOp; simp only [hop, hx]; simp [go_sem, hc]
  refine ⟨e1, ?_⟩
  have e2 : (execOp a.eval o).events Try.prog w #[] = #[⟨.cell ad, false, false⟩] := by unfold execOp; simp only [hop, hx]; simp [go_sem, hc]
  unfold listed
  rw [e2]
  exact seen_eq hn (by simp)
theorem run_loadF {fn : FuncId} (hn : (Try.prog.funcs[fn]?).any (·.norace) = false) {o : Oper} {x : Operand} {a : Act} {ad : Addr} {t : TypeId} (ht : t = 44) {f : Fn} {p q : Array Value} (hop : o.op = .load t x) (hx : a.eval x = .pointer (some ad)) {w : World} (hc : w.cell? ad = some (.func f p q)) : (execOp a.eval o).run Try.prog w = .ok (.value (.func f p q)) w ∧ listed Try.prog fn a o w = #[⟨.cell ad, false, false⟩] := by
  subst ht
  have e1 : (execOp a.eval o).run Try.prog w = .ok (.value (.func f p q)) w := by unfold execOp; simp only [hop, hx]; simp [go_sem, hc]
  refine ⟨e1, ?_⟩
  have e2 : (execOp a.eval o).events Try.prog w #[] = #[⟨.cell ad, false, false⟩] := by unfold execOp; simp only [hop, hx]; simp [go_sem, hc]
  unfold listed
  rw [e2]
  exact seen_eq hn (by simp)
/-- A stretch of a slice. -/
theorem run_slice' {fn : FuncId} {o : Oper} {x y z : Operand} {a : Act} {b off n cap lo hi : Nat} (hop : o.op = .slice 23 x (some y) (some z) none) (hx : a.eval x = .slice (some ⟨b, off, none⟩) n cap) (hy : a.eval y = .int .i64 (lo : Int)) (hz : a.eval z = .int .i64 (hi : Int)) (h1 : lo < hi) (h2 : hi ≤ n) (h3 : n ≤ cap) (w : World) : (execOp a.eval o).run Try.prog w = .ok (.value (.slice (some ⟨b, off + lo, none⟩) (hi - lo) (cap - lo))) w ∧ listed Try.prog fn a o w = #[] := by
  have g1 : lo ≤ hi := by omega
  have g2 : hi ≤ cap := by omega
  have g3 : cap ≠ lo := by omega
  have e1 : (execOp a.eval o).run Try.prog w = .ok (.value (.slice (some ⟨b, off + lo, none⟩) (hi - lo) (cap - lo))) w := by
    unfold execOp
    simp only [hop, hx, hy, hz, Option.map_some, Option.map_none]
    simp [go_sem, g1, g2, g3, Instr.sliceBound, asIntOf, Result.andThen, Addr.add]
  refine ⟨e1, listed_nil ?_⟩
  unfold execOp
  simp only [hop, hx, hy, hz, Option.map_some, Option.map_none]
  simp [go_sem, g1, g2, g3, Instr.sliceAt, Instr.slice, Instr.sliceBounds, Instr.sliceBound, asIntOf, Result.andThen, Result.evThen, int_sl]
/-- What each operation gives. -/
def vW (J : Job) (s : Str) (f : FuncId) (B : Bxs) : Nat → Value
  | 0 => .slice (some ⟨J.Ob, 0, none⟩) J.n J.n
  | 1 => .int .i64 (s.lo : Int)
  | 2 => .int .i64 ((s.lo + s.m : Nat) : Int)
  | 3 => .slice (some ⟨J.Ob, 0 + s.lo, none⟩) (s.lo + s.m - s.lo) (J.n - s.lo)
  | 4 => .func (.func f) #[] #[]
  | 5 => .slice (some ⟨s.ab, B.ao, none⟩) J.n B.ca
  | 6 => .int .i64 (s.lo : Int)
  | 7 => .int .i64 ((s.lo + s.m : Nat) : Int)
  | 8 => .slice (some ⟨s.ab, B.ao + s.lo, none⟩) (s.lo + s.m - s.lo) (B.ca - s.lo)
  | 9 => .slice (some ⟨s.bb, B.bo, none⟩) J.n B.cb
  | 10 => .int .i64 (s.lo : Int)
  | 11 => .int .i64 ((s.lo + s.m : Nat) : Int)
  | 12 => .slice (some ⟨s.bb, B.bo + s.lo, none⟩) (s.lo + s.m - s.lo) (B.cb - s.lo)
  | _ => .tuple #[]
theorem allW {val : Nat → Value} {a₀ a : Act} {L : Array Bool} (h : Came opsW val a₀ L a) (h13 : L.getD 13 false = true) : ∀ i, i < 13 → L.getD i false = true := by
  have h3 := h.dep h13 (oW_at 13 (by omega)) (j := 3) (by kernel_rfl)
  have h4 := h.dep h13 (oW_at 13 (by omega)) (j := 4) (by kernel_rfl)
  have h8 := h.dep h13 (oW_at 13 (by omega)) (j := 8) (by kernel_rfl)
  have h12 := h.dep h13 (oW_at 13 (by omega)) (j := 12) (by kernel_rfl)
  have h0 := h.dep h3 (oW_at 3 (by omega)) (j := 0) (by kernel_rfl)
  have h1 := h.dep h3 (oW_at 3 (by omega)) (j := 1) (by kernel_rfl)
  have h2 := h.dep h3 (oW_at 3 (by omega)) (j := 2) (by kernel_rfl)
  have h5 := h.dep h8 (oW_at 8 (by omega)) (j := 5) (by kernel_rfl)
  have h6 := h.dep h8 (oW_at 8 (by omega)) (j := 6) (by kernel_rfl)
  have h7 := h.dep h8 (oW_at 8 (by omega)) (j := 7) (by kernel_rfl)
  have h9 := h.dep h12 (oW_at 12 (by omega)) (j := 9) (by kernel_rfl)
  have h10 := h.dep h12 (oW_at 12 (by omega)) (j := 10) (by kernel_rfl)
  have h11 := h.dep h12 (oW_at 12 (by omega)) (j := 11) (by kernel_rfl)
  intro i hi
  match i, hi with
  | 0, _ => exact h0
  | 1, _ => exact h1
  | 2, _ => exact h2
  | 3, _ => exact h3
  | 4, _ => exact h4
  | 5, _ => exact h5
  | 6, _ => exact h6
  | 7, _ => exact h7
  | 8, _ => exact h8
  | 9, _ => exact h9
  | 10, _ => exact h10
  | 11, _ => exact h11
  | 12, _ => exact h12
/-- The temporaries at the beginning. -/
structure AtW (J : Job) (B : Bxs) (a : Act) : Prop where
  size : a.tmps.size = 21
  t1 : a.eval (.tmp 1) = .pointer (some ⟨B.ou, 0, none⟩)
  t2 : a.eval (.tmp 2) = .pointer (some ⟨B.fr, 0, none⟩)
  t3 : a.eval (.tmp 3) = .pointer (some ⟨B.to, 0, none⟩)
  t4 : a.eval (.tmp 4) = .pointer (some ⟨B.op, 0, none⟩)
  t5 : a.eval (.tmp 5) = .pointer (some ⟨B.a, 0, none⟩)
  t6 : a.eval (.tmp 6) = .pointer (some ⟨B.b, 0, none⟩)
theorem oW_op13 : (oW 13).op = .call { callee := .value (.func 59), args := #[.tmp 10, .tmp 11, .tmp 15, .tmp 19], argTypes := #[23, 44, 23, 23] } := by kernel_rfl
set_option maxHeartbeats 1000000 in
theorem work_c (F : B.Fits J k s) (hI : IsOp f g) (hfx : ∀ i, i < s.m → J.fx (s.lo + i) = g (s.X i) (s.Y i)) : ∃ N, ∀ (Q : Exit → Act → World → Prop) (a₀ : Act) (w : World), AtW J B a₀ → WK J k s f B w →
    (∀ a w', a.defers = a₀.defers → FH J k s s.m w' → Q .normal a w') →
    (Code.region 1 opsW true).wpC Try.prog false (J.RW k) (J.DW k) 57 N Q a₀ w := by
  obtain ⟨nf, hfill⟩ := fill_c F.str hI hfx (J.n - s.lo) (B.ca - s.lo) (B.cb - s.lo)
  refine ⟨opsW.size * (nf + 3) + 1 + 1, fun Q a₀ w hA hF hQ => ?_⟩
  have hdst : dstB opsW a₀.tmps.size = true := by rw [hA.size]; exact oW_dst
  have T := J.termsW k
  refine wpC_any (I := fun L a w => Came opsW (vW J s f B) a₀ L a ∧ ((L.getD 13 false = false ∧ WK J k s f B w) ∨ (L.getD 13 false = true ∧ FH J k s s.m w))) T (J.drawW k) (by kernel_rfl) oW_back ?_ ?_ ?_
  · rintro L a w ⟨hC, hw⟩ hall
    have h13 : L.getD 13 false = true := by
      rw [← getD_true_false (by rw [hC.size, oW_size]; omega)]
      exact hall 13 (by rw [oW_size]; omega)
    rcases hw with ⟨h, _⟩ | ⟨_, h⟩
    · rw [h13] at h; cases h
    · exact hQ a w hC.defers h
  · rintro L a w i ⟨hC, hw⟩ hr rest m hnext
    obtain ⟨hun, o', ho', _⟩ := mem_ready.1 hr
    have hi : i < 14 := by have := (Array.getElem?_eq_some_iff.1 ho').1; rwa [oW_size] at this
    have hun' : L.getD i false = false := by rw [← getD_true_false (by rw [hC.size, oW_size]; exact hi)]; exact hun
    have hFw : WK J k s f B w ∧ L.getD 13 false = false := by
      rcases hw with ⟨h1, h2⟩ | ⟨h1, h2⟩
      · exact ⟨h2, h1⟩
      · exfalso
        rcases Nat.lt_or_ge i 13 with h | h
        · rw [allW hC h1 i h] at hun'; cases hun'
        · obtain rfl : i = 13 := by omega
          rw [h1] at hun'; cases hun'
    clear hw
    obtain ⟨hF, h13⟩ := hFw
    have fin : ∀ (d : Tmp) (hd : (oW i).dst = some d) (h : i ≠ 13) (w₁ : World), J.RW k w w₁ → OpsC Try.prog false (J.RW k) (J.DW k) 57 opsW rest m Q (a.put (oW i).dst (vW J s f B i)) w₁ := fun d hd h w₁ r =>
      hnext _ _ ⟨hC.put hdst hr (oW_at i hi) hd, .inl ⟨by rw [set13 h]; exact h13, hF.rely F r⟩⟩
    have idle : ∀ (w₁ : World) (es : Array Event), es = #[] → J.DW k w₁ w₁ es := fun w₁ es e => e ▸ T.idle w₁
    have reads : ∀ (b : Nat) (w₁ : World) (es : Array Event), Kpt J k b → es = #[⟨.cell ⟨b, 0, none⟩, false, false⟩] → J.DW k w₁ w₁ es := fun b w₁ es hb e => e ▸ J.readW k _ (fun x hx => by rw [Array.mem_singleton] at hx; subst hx; exact J.evR F.str.fit F.str.old F.str.last hb.1 hb.2.1 hb.2.2.1 hb.2.2.2)
    match i, hi with
    | 0, hi => exact opsC_more (step_val (v := vW J s f B 0) (oW_at 0 hi) (by kernel_rfl) (fun w₁ r => by
        have e := run_loadS loudW (a := a) (o := oW 0) (x := .tmp 1) (by kernel_rfl) ((hC.old (by kernel_rfl)).trans hA.t1) (hF.rely F r).ou
        exact ⟨e.1, reads _ _ _ F.ou e.2⟩) (fin 7 (by kernel_rfl) (by omega))) (by omega)
    | 1, hi => exact opsC_more (step_val (v := vW J s f B 1) (oW_at 1 hi) (by kernel_rfl) (fun w₁ r => by
        have e := run_load' loudW (a := a) (o := oW 1) (x := .tmp 2) (by kernel_rfl) ((hC.old (by kernel_rfl)).trans hA.t2) (hF.rely F r).fr
        exact ⟨e.1, reads _ _ _ F.fr e.2⟩) (fin 8 (by kernel_rfl) (by omega))) (by omega)
    | 2, hi => exact opsC_more (step_val (v := vW J s f B 2) (oW_at 2 hi) (by kernel_rfl) (fun w₁ r => by
        have e := run_load' loudW (a := a) (o := oW 2) (x := .tmp 3) (by kernel_rfl) ((hC.old (by kernel_rfl)).trans hA.t3) (hF.rely F r).to
        exact ⟨e.1, reads _ _ _ F.to e.2⟩) (fin 9 (by kernel_rfl) (by omega))) (by omega)
    | 3, hi => exact opsC_more (step_val (v := vW J s f B 3) (oW_at 3 hi) (by kernel_rfl) (fun w₁ r => by
        have e := run_slice' (fn := 57) (a := a) (o := oW 3) (x := .tmp 7) (y := .tmp 8) (z := .tmp 9) (by kernel_rfl) (hC.at_ (oW_at 0 (by omega)) (d := 7) (by kernel_rfl) (ready_dep hr (oW_at _ hi) (j := 0) (by kernel_rfl))) (hC.at_ (oW_at 1 (by omega)) (d := 8) (by kernel_rfl) (ready_dep hr (oW_at _ hi) (j := 1) (by kernel_rfl))) (hC.at_ (oW_at 2 (by omega)) (d := 9) (by kernel_rfl) (ready_dep hr (oW_at _ hi) (j := 2) (by kernel_rfl))) (by have := F.pos; omega) F.hi (Nat.le_refl _) w₁
        exact ⟨e.1, idle _ _ e.2⟩) (fin 10 (by kernel_rfl) (by omega))) (by omega)
    | 4, hi => exact opsC_more (step_val (v := vW J s f B 4) (oW_at 4 hi) (by kernel_rfl) (fun w₁ r => by
        have e := run_loadF loudW rfl (a := a) (o := oW 4) (x := .tmp 4) (by kernel_rfl) ((hC.old (by kernel_rfl)).trans hA.t4) (hF.rely F r).op
        exact ⟨e.1, reads _ _ _ F.op e.2⟩) (fin 11 (by kernel_rfl) (by omega))) (by omega)
    | 5, hi => exact opsC_more (step_val (v := vW J s f B 5) (oW_at 5 hi) (by kernel_rfl) (fun w₁ r => by
        have e := run_loadS loudW (a := a) (o := oW 5) (x := .tmp 5) (by kernel_rfl) ((hC.old (by kernel_rfl)).trans hA.t5) (hF.rely F r).a
        exact ⟨e.1, reads _ _ _ F.a e.2⟩) (fin 12 (by kernel_rfl) (by omega))) (by omega)
    | 6, hi => exact opsC_more (step_val (v := vW J s f B 6) (oW_at 6 hi) (by kernel_rfl) (fun w₁ r => by
        have e := run_load' loudW (a := a) (o := oW 6) (x := .tmp 2) (by kernel_rfl) ((hC.old (by kernel_rfl)).trans hA.t2) (hF.rely F r).fr
        exact ⟨e.1, reads _ _ _ F.fr e.2⟩) (fin 13 (by kernel_rfl) (by omega))) (by omega)
    | 7, hi => exact opsC_more (step_val (v := vW J s f B 7) (oW_at 7 hi) (by kernel_rfl) (fun w₁ r => by
        have e := run_load' loudW (a := a) (o := oW 7) (x := .tmp 3) (by kernel_rfl) ((hC.old (by kernel_rfl)).trans hA.t3) (hF.rely F r).to
        exact ⟨e.1, reads _ _ _ F.to e.2⟩) (fin 14 (by kernel_rfl) (by omega))) (by omega)
    | 8, hi => exact opsC_more (step_val (v := vW J s f B 8) (oW_at 8 hi) (by kernel_rfl) (fun w₁ r => by
        have e := run_slice' (fn := 57) (a := a) (o := oW 8) (x := .tmp 12) (y := .tmp 13) (z := .tmp 14) (by kernel_rfl) (hC.at_ (oW_at 5 (by omega)) (d := 12) (by kernel_rfl) (ready_dep hr (oW_at _ hi) (j := 5) (by kernel_rfl))) (hC.at_ (oW_at 6 (by omega)) (d := 13) (by kernel_rfl) (ready_dep hr (oW_at _ hi) (j := 6) (by kernel_rfl))) (hC.at_ (oW_at 7 (by omega)) (d := 14) (by kernel_rfl) (ready_dep hr (oW_at _ hi) (j := 7) (by kernel_rfl))) (by have := F.pos; omega) F.hi F.ca w₁
        exact ⟨e.1, idle _ _ e.2⟩) (fin 15 (by kernel_rfl) (by omega))) (by omega)
    | 9, hi => exact opsC_more (step_val (v := vW J s f B 9) (oW_at 9 hi) (by kernel_rfl) (fun w₁ r => by
        have e := run_loadS loudW (a := a) (o := oW 9) (x := .tmp 6) (by kernel_rfl) ((hC.old (by kernel_rfl)).trans hA.t6) (hF.rely F r).b
        exact ⟨e.1, reads _ _ _ F.b e.2⟩) (fin 16 (by kernel_rfl) (by omega))) (by omega)
    | 10, hi => exact opsC_more (step_val (v := vW J s f B 10) (oW_at 10 hi) (by kernel_rfl) (fun w₁ r => by
        have e := run_load' loudW (a := a) (o := oW 10) (x := .tmp 2) (by kernel_rfl) ((hC.old (by kernel_rfl)).trans hA.t2) (hF.rely F r).fr
        exact ⟨e.1, reads _ _ _ F.fr e.2⟩) (fin 17 (by kernel_rfl) (by omega))) (by omega)
    | 11, hi => exact opsC_more (step_val (v := vW J s f B 11) (oW_at 11 hi) (by kernel_rfl) (fun w₁ r => by
        have e := run_load' loudW (a := a) (o := oW 11) (x := .tmp 3) (by kernel_rfl) ((hC.old (by kernel_rfl)).trans hA.t3) (hF.rely F r).to
        exact ⟨e.1, reads _ _ _ F.to e.2⟩) (fin 18 (by kernel_rfl) (by omega))) (by omega)
    | 12, hi => exact opsC_more (step_val (v := vW J s f B 12) (oW_at 12 hi) (by kernel_rfl) (fun w₁ r => by
        have e := run_slice' (fn := 57) (a := a) (o := oW 12) (x := .tmp 16) (y := .tmp 17) (z := .tmp 18) (by kernel_rfl) (hC.at_ (oW_at 9 (by omega)) (d := 16) (by kernel_rfl) (ready_dep hr (oW_at _ hi) (j := 9) (by kernel_rfl))) (hC.at_ (oW_at 10 (by omega)) (d := 17) (by kernel_rfl) (ready_dep hr (oW_at _ hi) (j := 10) (by kernel_rfl))) (hC.at_ (oW_at 11 (by omega)) (d := 18) (by kernel_rfl) (ready_dep hr (oW_at _ hi) (j := 11) (by kernel_rfl))) (by have := F.pos; omega) F.hi F.cb w₁
        exact ⟨e.1, idle _ _ e.2⟩) (fin 19 (by kernel_rfl) (by omega))) (by omega)
    | 13, hi =>
      have q1 : a.eval (.tmp 10) = .slice (some ⟨J.Ob, s.lo, none⟩) s.m (J.n - s.lo) := by
        have h := (hC.at_ (oW_at 3 (by omega)) (d := 10) (by kernel_rfl) (ready_dep hr (oW_at _ hi) (j := 3) (by kernel_rfl)))
        simpa [vW] using h
      have q2 : a.eval (.tmp 11) = .func (.func f) #[] #[] := (hC.at_ (oW_at 4 (by omega)) (d := 11) (by kernel_rfl) (ready_dep hr (oW_at _ hi) (j := 4) (by kernel_rfl)))
      have q3 : a.eval (.tmp 15) = .slice (some ⟨s.ab, s.ao, none⟩) s.m (B.ca - s.lo) := by
        have h := (hC.at_ (oW_at 8 (by omega)) (d := 15) (by kernel_rfl) (ready_dep hr (oW_at _ hi) (j := 8) (by kernel_rfl)))
        rw [F.ao]
        simpa [vW] using h
      have q4 : a.eval (.tmp 19) = .slice (some ⟨s.bb, s.bo, none⟩) s.m (B.cb - s.lo) := by
        have h := (hC.at_ (oW_at 12 (by omega)) (d := 19) (by kernel_rfl) (ready_dep hr (oW_at _ hi) (j := 12) (by kernel_rfl)))
        rw [F.bo]
        simpa [vW] using h
      have em : (#[.tmp 10, .tmp 11, .tmp 15, .tmp 19] : Array Operand).map a.eval = #[.slice (some ⟨J.Ob, s.lo, none⟩) s.m (J.n - s.lo), .func (.func f) #[] #[], .slice (some ⟨s.ab, s.ao, none⟩) s.m (B.ca - s.lo), .slice (some ⟨s.bb, s.bo, none⟩) s.m (B.cb - s.lo)] := by simp [q1, q2, q3, q4]
      refine opsC_more (opsC_call T (oW_at 13 hi) (by kernel_rfl) oW_op13 (n := m) (nf := nf) (Post := fun v w' => v = .tuple #[] ∧ FH J k s s.m w') ?_ ?_) (by omega)
      · rw [em]
        exact hfill w hF.fh
      · rintro v w' ⟨rfl, hS⟩
        refine hnext (a.put (oW 13).dst (vW J s f B 13)) w' ⟨hC.put hdst hr (oW_at 13 hi) (d := 20) (by kernel_rfl), .inr ⟨?_, hS⟩⟩
        rw [Array.getD_eq_getD_getElem?, Array.getElem?_setIfInBounds_self_of_lt (by rw [hC.size, oW_size]; omega)]
        rfl
  · exact fun w₁ r => ⟨Came.start _ _, .inl ⟨by rw [Array.getD_eq_getD_getElem?, Array.getElem?_replicate]; split <;> rfl, (hF.rely F r).rely F (J.relyDraw k _)⟩⟩
end
end Go.Proofs.Ytadngncbbbbapaa.Lift
